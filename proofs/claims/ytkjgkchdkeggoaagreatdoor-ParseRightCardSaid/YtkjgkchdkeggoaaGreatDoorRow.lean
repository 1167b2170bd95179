/-
  The reader's row: parts of one kind with a mark between them.
-/
import Derived.Test.YtkjgkchdkeggoaaGreatDoorPart
namespace Go.Proofs.YtkjgkchdkeggoaaGreatDoor
open Go.RowKit
set_option maxRecDepth 20000
set_option linter.unusedVariables false
set_option linter.unusedSimpArgs false

theorem info26b : (Tryz.prog.info? 26).map (fun i => (i.zero, i.size, i.bytes)) = some (some (.agg #[.int .i64 0, .int .i64 0, .int .i64 0, .int .i64 0, .slice none 0 0, .slice none 0 0]), 6, 80) := by kernel_rfl
/-- Kids lie apart from v's own block. -/
def Kids (N : Nat) (v : Value) (w : World) (ys : List Br) : Prop := ∀ y ∈ ys, y.Lies w ∧ y.On fun q => N ≤ q ∧ some q ≠ v.ownBlock
theorem Kids.grow {N : Nat} {v : Value} {w w' : World} {ys : List Br} {g : Nat} (h : Kids N v w ys) (hg : w.grownBy w' (some g)) (hlt : g < N) : Kids N v w' ys := fun y hy => by
  obtain ⟨h1, h2⟩ := h y hy
  exact ⟨Br.Lies.kept (P := fun q => N ≤ q ∧ some q ≠ v.ownBlock) y hg.size (fun q hq hl => hg.block q hl (fun e => by have := Option.some.inj e; omega)) h2 h1, h2⟩
theorem Kids.step {N : Nat} {v : Value} {w w' : World} {ys : List Br} (h : Kids N v w ys) (hb : Below w.heap.size w w') : Kids N v w' ys := fun y hy => ⟨(h y hy).1.step _ hb, (h y hy).2⟩
theorem kids_one {N : Nat} {w w1 : World} {y : Br} {o : Obj} (hN : N ≤ w.heap.size) (hyl : y.Lies w1) (hyo : y.On fun q => w.heap.size ≤ q) (n c : Nat) : Kids N (.slice (some ⟨w1.heap.size, 0, none⟩) n c) (w1.alloc o) [y] := fun b hb => by
  obtain rfl := List.mem_singleton.1 hb
  refine ⟨hyl.step _ ((Below.refl _ _).alloc (Nat.le_refl _) o), (Br.On.low b hyo hyl).mono (fun q hq => ⟨by omega, fun e => ?_⟩) _⟩
  have : q = w1.heap.size := by simpa [Value.ownBlock] using e
  omega
theorem kids_append {N g5 : Nat} {v v5 : Value} {wr w3 w5 : World} {ys : List Br} {y : Br} {o : Obj} (hK : Kids N v w3 ys) (hvb : ∀ q, v.ownBlock = some q → q < wr.heap.size) (hN : N ≤ wr.heap.size) (hs3 : wr.heap.size ≤ w3.heap.size)
    (hgrow : (w3.alloc o).grownBy w5 v.ownBlock) (hat : v.ownBlock = some g5 ∨ g5 = w3.heap.size + 1) (h5 : v5.ownBlock = some g5) (hyl : y.Lies w3) (hyo : y.On fun q => wr.heap.size ≤ q) : Kids N v5 w5 (ys ++ [y]) := by
  have hB : Below w3.heap.size w3 (w3.alloc o) := (Below.refl _ _).alloc (Nat.le_refl _) o
  have key : ∀ b : Br, b.Lies (w3.alloc o) → (b.On fun k => some k ≠ v.ownBlock) → b.Lies w5 := fun b hl ho =>
    Br.Lies.kept (P := fun k => some k ≠ v.ownBlock) b hgrow.size (fun k hk hlt => hgrow.block k hlt hk) ho hl
  intro b hb
  rcases List.mem_append.1 hb with hb | hb
  · obtain ⟨hl, ho⟩ := hK b hb
    refine ⟨key b (hl.step _ hB) (ho.mono (fun k hk => hk.2) _), (Br.On.low b ho hl).mono (fun k hk => ⟨hk.1.1, fun he => ?_⟩) _⟩
    rw [h5] at he
    rcases hat with h | h
    · exact hk.1.2 (he.trans h.symm)
    · have := Option.some.inj he
      have := hk.2
      omega
  · obtain rfl := List.mem_singleton.1 hb
    have hlow := Br.On.low b hyo hyl
    refine ⟨key b (hyl.step _ hB) (hyo.mono (fun k hk => fun he => ?_) _), hlow.mono (fun k hk => ⟨by omega, fun he => ?_⟩) _⟩
    · have := hvb k he.symm
      omega
    · rw [h5] at he
      have hkg := Option.some.inj he
      rcases hat with h | h
      · have := hvb g5 h
        omega
      · omega
/-- A row of branches of the call's own is handed back. -/
def RK (w0 : World) : List Pb → Value → World → Prop := fun l v w' => ∃ ys : List Br, w'.ownsRow w0.heap.size 26 6 v ys.length (cellsK ys) ∧ Kids w0.heap.size v w' ys ∧ ys.map Br.pb = l

set_option maxHeartbeats 8000000 in
theorem rrow_any (m : Nat) (cap : Array Value) (hcf : ∀ args w, Sem.run Tryz.prog (callFunc m args) w = .ok (.enter m args) w) (S : Src) (F n d : Nat) (t : ByteArray) (read : Nat → Out Pb) (w : World) (h : Rd w S n d) (ht : t.data.toList ≠ []) (hF : F ≤ 1000000000)
    (hread : ∀ k w', Rd w' S k d → w.grownBy w' (some S.g) → read k ≠ .dry → Calls Tryz.prog m (#[.pointer (some ⟨S.g, 0, none⟩)] ++ cap) w' (fun e w'' => Ends S d w' (read k) (RB w') e w''))
    (hdry : rowO S F t.data.toList read n ≠ .dry) :
    Calls Tryz.prog 49 #[.pointer (some ⟨S.g, 0, none⟩), .string t, .func (.func m) #[] cap] w fun e w' => Ends S d w (rowO S F t.data.toList read n) (RK w) e w' := by
  obtain ⟨i0, hi0, hy0, hy1, hy2⟩ := info_parts info26b
  have hgl := h.lt
  have hgwl := h.row
  have HDRY := Lib.hid hdry
  have HX0 := Lib.hid (hread n w h (grown_same _ _) (bind_dry hdry))
  have HRD := Lib.hid hread
  obtain ⟨tot, htot⟩ : ∃ tot, tot = rowO S F t.data.toList read n := ⟨_, rfl⟩
  rw [← htot] at HDRY ⊢
  have HTOT := Lib.hid htot
  have HTT := Lib.hid ht
  clear htot h hdry hread ht
  go_enter Tryz.func49, Tryz.ntmps49
  go_wp2_with fail
  refine HX0.out.mono ?_
  rintro e w1 (⟨b1, n1, v, hpo, rfl, ⟨y, rfl, hyl, hyo, hyp⟩, hr, hg⟩ | ⟨ch, ho, rfl, hg⟩)
  · have HL : Hid (tot = rowL S t.data.toList read F ([y].map Br.pb) n1) := Lib.hid (by rw [HTOT.out]; unfold rowO; rw [hpo, List.map_cons, List.map_nil, hyp]; rfl)
    have hB1 : Below w1.heap.size w1 (w1.alloc (.cells #[.int .i64 y.h.k, .int .i64 y.h.m, .int .i64 y.h.f, .int .i64 y.h.t, .slice y.h.np y.h.nn y.h.nc, .slice y.h.kp y.h.kn y.h.kc] 26)) := (Below.refl _ _).alloc (Nat.le_refl _) _
    have HR1 := Lib.hid (hr.step hB1)
    have HG1 := Lib.hid (grown_trans hg (grown_below hB1 (some S.g)))
    have HO1 : Hid ((w1.alloc (.cells #[.int .i64 y.h.k, .int .i64 y.h.m, .int .i64 y.h.f, .int .i64 y.h.t, .slice y.h.np y.h.nn y.h.nc, .slice y.h.kp y.h.kn y.h.kc] 26)).ownsRow w.heap.size 26 6 (.slice (some ⟨w1.heap.size, 0, none⟩) 1 1) 1 (cellsK [y])) := Lib.hid (own_lit (heap_alloc_new w1 _) hg.size rfl (by unfold maxLen; omega))
    have HK1 : Hid (Kids w.heap.size (.slice (some ⟨w1.heap.size, 0, none⟩) 1 1) (w1.alloc (.cells #[.int .i64 y.h.k, .int .i64 y.h.m, .int .i64 y.h.f, .int .i64 y.h.t, .slice y.h.np y.h.nn y.h.nc, .slice y.h.kp y.h.kn y.h.kc] 26)) [y]) := Lib.hid (kids_one (Nat.le_refl _) hyl hyo 1 1)
    clear hpo hyl hyo hyp hr hg hB1
    go_wp2_with fail
    go_loopg [7] F (fun gk v7 wr => ∃ (ys : List Br) (i : Nat) (p7 : Option Addr) (c7 : Nat), v7 = .slice p7 ys.length c7 ∧ ys.length + gk = F + 1 ∧ Hid (tot = rowL S t.data.toList read gk (ys.map Br.pb) i) ∧ Hid (wr.ownsRow w.heap.size 26 6 (.slice p7 ys.length c7) ys.length (cellsK ys)) ∧ Hid (Kids w.heap.size (.slice p7 ys.length c7) wr ys) ∧ Hid (Rd wr S i d) ∧ w.grownBy wr (some S.g))
    case atStart => exact ⟨[y], n1, _, _, rfl, by simp; omega, HL, HO1, HK1, HR1, HG1.out⟩
    case round =>
      obtain ⟨ys, i, p7, c7, rfl, hal, HL2, HO, HK, HRr, hgr⟩ := hrel
      have HGR := Lib.hid hgr
      have hzr := hgr.size
      clear hgr
      cases gk with
      | zero => exact absurd HL2.out (by intro e; exact HDRY.out e)
      | succ gk =>
      have hLs := HL2.out
      simp only [rowL] at hLs
      have HLS := Lib.hid hLs
      have HP := Lib.hid (rpass_any S i d t wr HRr.out HTT.out)
      clear hLs HL2
      cases hm : S.is i t.data.toList <;> rw [hm] at HP
      · have HEQ : Hid (tot = .ok (ys.map Br.pb) i) := Lib.hid (by rw [HLS.out, hm]; rfl)
        clear hm HLS
        go_wp2_with fail
        refine HP.out.mono ?_
        rintro e w2 ⟨rfl, hr2, hg2⟩
        have HO2 := Lib.hid (HO.out.kept hg2 (Or.inr (fun e => by have := (HO.out.lt _ e).1; omega)))
        have HK2 := Lib.hid (HK.out.grow hg2 hgl)
        have HR2 := Lib.hid hr2
        have HG2 := Lib.hid (grown_trans HGR.out hg2)
        clear hr2 hg2
        go_wp2_with fail
        go_ret
        exact Or.inl ⟨_, i, _, HEQ.out, rfl, ⟨ys, HO2.out, HK2.out, rfl⟩, HR2.out, HG2.out⟩
      · have HEQ : Hid (tot = (read (i + 1)).bind fun b n' => rowL S t.data.toList read gk (ys.map Br.pb ++ [b]) n') := Lib.hid (by rw [HLS.out, hm]; rfl)
        have HND : Hid (read (i + 1) ≠ .dry) := Lib.hid (bind_dry (by rw [← HEQ.out]; exact HDRY.out))
        clear hm HLS
        go_wp2_with fail
        refine HP.out.mono ?_
        rintro e w2 ⟨rfl, hr2, hg2⟩
        have HO2 := Lib.hid (HO.out.kept hg2 (Or.inr (fun e => by have := (HO.out.lt _ e).1; omega)))
        have HK2 := Lib.hid (HK.out.grow hg2 hgl)
        have HG2 := Lib.hid (grown_trans HGR.out hg2)
        have hz2 := HG2.out.size
        have HX := Lib.hid (HRD.out (i + 1) w2 hr2 HG2.out HND.out)
        clear hr2 hg2
        go_wp2_with fail
        refine HX.out.mono ?_
        rintro e w3 (⟨b3, n3, v, hpo, rfl, ⟨y3, rfl, hyl, hyo, hyp⟩, hr3, hg3⟩ | ⟨ch, ho, rfl, hg3⟩)
        · have hz3 := hg3.size
          have HL3 : Hid (tot = rowL S t.data.toList read gk ((ys ++ [y3]).map Br.pb) n3) := Lib.hid (by rw [HEQ.out, hpo, List.map_append, List.map_cons, List.map_nil, hyp]; rfl)
          have hB4 : Below w3.heap.size w3 (w3.alloc (.cells #[.int .i64 y3.h.k, .int .i64 y3.h.m, .int .i64 y3.h.f, .int .i64 y3.h.t, .slice y3.h.np y3.h.nn y3.h.nc, .slice y3.h.kp y3.h.kn y3.h.kc] 26)) := (Below.refl _ _).alloc (Nat.le_refl _) _
          have hO3 := HO2.out.kept hg3 (Or.inr (fun e => by have := (HO2.out.lt _ e).1; omega))
          have HO4 := Lib.hid (ownsRow_below hO3 hB4)
          have HK3 := Lib.hid (HK2.out.grow hg3 hgl)
          have HR4 := Lib.hid (hr3.step hB4)
          have HG4 := Lib.hid (grown_trans (grown_trans HG2.out hg3) (grown_below hB4 (some S.g)))
          have HN4 := Lib.hid (World.news_of_block (heap_alloc_new w3 (.cells #[.int .i64 y3.h.k, .int .i64 y3.h.m, .int .i64 y3.h.f, .int .i64 y3.h.t, .slice y3.h.np y3.h.nn y3.h.nc, .slice y3.h.kp y3.h.kn y3.h.kc] 26)))
          have HLT := Lib.hid (fun q hq => (HO4.out.lt q hq).1)
          have HVB := Lib.hid (fun q hq => (HO2.out.lt q hq).2)
          have HYL := Lib.hid hyl
          have HYO := Lib.hid hyo
          have hz4 : w.heap.size ≤ w3.heap.size := by omega
          clear hpo hyl hyo hyp hr3 hg3 hO3 hB4
          generalize hacl : ys.length = al at *
          have HACL := Lib.hid hacl
          clear hacl
          go_wp2_with (at_builtin; refine wpList_append_lies _ rfl _ _ 24 rfl w.heap.size 26 i0 _ 6 80 Tryz.underlying24 hi0 hy0 hy1 hy2 rfl (by omega) _ al _ rfl HO4.out ⟨w3.heap.size, 0, none⟩ 1 1 (hcells y3.h) rfl rfl HN4.out (hcells_one y3.h) (by omega) (by unfold maxLen; omega) (by omega) (by simp; omega) (w3.heap.size + 1) (by simp) ?_)
          intro g5 c5 w5 hown5 hgrow5 hat5 hlt5
          have hall : (ys ++ [y3]).length = al + 1 := by simp [HACL.out]
          have hO5 : w5.ownsRow w.heap.size 26 6 (.slice (some ⟨g5, 0, none⟩) (ys ++ [y3]).length c5) (ys ++ [y3]).length (cellsK (ys ++ [y3])) := by
            rw [hall, cellsK_append]; simpa [cellsK] using hown5
          have HO5 := Lib.hid hO5
          have HK5 := Lib.hid (kids_append (v5 := .slice (some ⟨g5, 0, none⟩) (ys ++ [y3]).length c5) HK3.out HVB.out hz2 hz3 hgrow5 hat5 rfl HYL.out HYO.out)
          have HR5 := Lib.hid (HR4.out.grow hgrow5 (fun e => by have := HLT.out _ e; omega) (fun e => by have := HLT.out _ e; omega))
          have HG5 := Lib.hid (grown_own HG4.out hgrow5 HLT.out)
          clear hown5 hgrow5 hat5 hlt5 hO5
          go_wp2_with fail
          go_roundg gk
          case measure => omega
          case rel => exact ⟨ys ++ [y3], n3, _, c5, by rw [hall], by rw [hall]; omega, HL3, HO5, HK5, HR5, HG5.out⟩
        · exact ⟨rfl, Or.inr ⟨ch, by rw [HEQ.out]; exact pan_bind ho, rfl, grown_trans HG2.out hg3⟩⟩
  · exact ⟨rfl, Or.inr ⟨ch, by rw [HTOT.out]; exact pan_bind ho, rfl, hg⟩⟩
end Go.Proofs.YtkjgkchdkeggoaaGreatDoor
