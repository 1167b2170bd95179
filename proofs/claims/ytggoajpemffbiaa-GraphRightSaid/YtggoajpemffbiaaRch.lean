/-
  All numbers to which links lead (reached), walked: the rows of what is next.
-/
import Derived.Test.YtggoajpemffbiaaSch
import Derived.Deep.LoopGhost
namespace Go.Proofs.Ytggoajpemffbiaa
open Go.RowKit
set_option maxRecDepth 20000
set_option linter.unusedVariables false
set_option linter.unusedSimpArgs false

/-- An append of which the answer is known, as a step of a region that draws its order. -/
theorem step_append_run {P : Program} {ops : Array Oper} {o : Oper} {a : Act} {w : World} {K : Act → World → Prop} {Q : Exit → Act → World → Prop} {E : Prop} (hgd : o.guard = none) (s x : Operand) (t : TypeId)
    (ho : o.op = .call { callee := .builtin .append, args := #[s, x], argTypes := #[t, t] }) (v xv v' : Value) (w' : World) (hs : a.eval s = v) (hx : a.eval x = xv)
    (hr : (Builtin.append_ #[t, t] o.type #[v, xv]).run P w = .ok v' w') (h : K (a.put o.dst v') w') :
    if Region.wanted o (yielded ops a.tmps) = true then Oper.wp P o a w K Q else E := by
  have hw : Region.wanted o (yielded ops a.tmps) = true := by simp [Region.wanted, hgd]
  rw [if_pos hw]
  unfold Oper.wp execOp
  simp only [ho, resolve, invoke, builtin, Sem.run_bind, Sem.run_pure, Result.andThen_ok, List.map_toArray, List.map_cons, List.map_nil, hs, hx, hr]
  exact h
theorem OwnI.is' {w : World} {base n c : Nat} {q : Option Addr} {l : List Int} (h : OwnI w base (.slice q n c) l) : IS w q n c l := by
  obtain ⟨q', n', c', hv, his⟩ := h.is
  cases hv; exact his
theorem addI_no {l : List Int} {x : Int} (h : inI l x = false) : addI l x = l ++ [x] := by unfold addI; rw [h]; rfl
theorem not_inI {l : List Int} {x : Int} (h : inI l x = false) : x ∉ l := fun e => by rw [(inI_iff _ _).2 e] at h; cases h
set_option maxHeartbeats 8000000 in
theorem reached_any (q : Option Addr) (m c : Nat) (l : List P2) (a : Int) (w : World) (h : PS w q m c l) (hm : m ≤ 60) (hwf : ∀ p ∈ l, W64 p.1 ∧ W64 p.2) (ha : W64 a) :
    Calls Try.prog 22 #[.slice q m c, .int .i64 a] w fun e w' => ∃ (b : Nat) (ks : List Int), e = .returned (.map (some b)) ∧ SetI w' b ks ∧ (∀ x, x ∈ ks ↔ Cn l a x) ∧ Below w.heap.size w w' := by
  have hmm := @run_makeMap Try.prog
  have HP := Lib.hid h
  have HML := Lib.hid h.1
  have HWF := Lib.hid hwf
  have HA := Lib.hid ha
  clear h hwf ha
  have HG0 := Lib.hid (Grp.start w w.heap.size (Nat.le_refl _))
  have HB0 := Lib.hid ((Below.refl w.heap.size w).alloc (Nat.le_refl _) (.map #[] 0))
  go_enter Try.func22, Try.ntmps22
  go_wp2_with fail
  generalize w.alloc (.map #[] 0) = W0 at *
  obtain ⟨nb, hnb⟩ : ∃ nb, nb = w.heap.size := ⟨_, rfl⟩
  have HG1 : Hid (Grp W0 w.heap.size nb [] (nbs [])) := Lib.hid (by rw [hnb]; exact HG0.out)
  rw [← hnb]
  clear HG0
  have HNB := Lib.hid hnb
  clear hnb
  go_loopw [18] (fun i wr => ∃ (k : Nat) (L : IV), k ≤ m ∧ i = .int .i64 k ∧ Hid (Grp wr w.heap.size nb L (nbs (l.take k))) ∧ Hid (Below w.heap.size w wr)) (fun i _ => m - (intOf i).toNat)
  case atStart => exact ⟨0, [], by omega, rfl, HG1, HB0⟩
  case round =>
    obtain ⟨k, L, hk, rfl, HG, HB⟩ := hrel
    clear HG1 HB0
    by_cases hlt : k < m
    · obtain ⟨hmm', h0 | ⟨gb, o, rfl, hcb, hgb, hat⟩⟩ := HP.out
      · omega
      clear hmm'
      obtain ⟨p, hp⟩ : ∃ p, l[k]? = some p := ⟨_, List.getElem?_eq_getElem (by have := HML.out; omega)⟩
      obtain ⟨v0, v1⟩ := hat k p hp
      rw [← HB.out.cell (p := ⟨gb, _, none⟩) hgb] at v0 v1
      have hbz := HB.out.size
      have hgb2 : gb < wr.heap.size := by omega
      have s1 : (0 : Int) ≤ (k : Int) := by omega
      have s2 : (k : Int) < (m : Int) := by omega
      have HTK := Lib.hid (take_snoc hp)
      have HW1 := Lib.hid (HWF.out p (List.mem_of_getElem? hp)).1
      have HW2 := Lib.hid (HWF.out p (List.mem_of_getElem? hp)).2
      have hln : ∀ x, (nbs (l.take k) x).length ≤ 500 := fun x => by have := nbs_len (l.take k) x; simp at this; omega
      obtain ⟨pa, pb⟩ := p
      simp only at v0 v1 HW1 HW2
      have hbb : Below wr.heap.size wr (wr.alloc (.cells #[.int .i64 pa, .int .i64 pb] 40)) := (Below.refl _ _).alloc (Nat.le_refl _) _
      have hx := heap_new wr (.cells #[.int .i64 pa, .int .i64 pb] 40)
      have HGb := Lib.hid (HG.out.step hbb)
      have HBb := Lib.hid (HB.out.trans (hbb.mono hbz))
      clear hat hp hbb
      go_wp2_with fail
      obtain ⟨B, hB⟩ : ∃ B, B = wr.heap.size := ⟨_, rfl⟩
      rw [← hB] at hx ⊢
      clear v0 v1 hgb2 hbz hB
      generalize wr.alloc (.cells #[.int .i64 pa, .int .i64 pb] 40) = W1 at *
      have HX := Lib.hid hx
      have hBl := heap_lt hx
      have HGd := Lib.hid (HGb.out.step (Below.refl W1.heap.size W1).drew)
      have hsz := HBb.out.size
      obtain ⟨v', w2, w3, hpu⟩ := HGd.out.push HW1.out pb hsz (by have := hln pa; omega)
      have l1 := HGd.out.look HW1.out
      have l2 : Sem.run Try.prog (Instr.lookup 59 (.map (some nb)) (.int .i64 pa) false) (W1.alloc (.cells #[.int .i64 pb] 3)).drew = .ok (gv L pa) (W1.alloc (.cells #[.int .i64 pb] 3)).drew := (HGd.out.step ((Below.refl W1.drew.heap.size W1.drew).alloc (Nat.le_refl _) (.cells #[.int .i64 pb] 3))).look HW1.out
      have b0 : W1.cell? ⟨B, 0, none⟩ = some (.int .i64 pa) := (cellH hx 0).trans rfl
      have b1 : W1.cell? ⟨B, 1, none⟩ = some (.int .i64 pb) := (cellH hx 1).trans rfl
      have happ : Sem.run Try.prog (Builtin.append_ #[22, 22] 22 #[gv L pa, .slice (some ⟨W1.heap.size, 0, none⟩) 1 1]) (W1.alloc (.cells #[.int .i64 pb] 3)).drew = .ok v' w2 := hpu.app
      have hupd := hpu.upd
      have HPU := Lib.hid hpu
      have hx2 := hpu.ko2 B _ _ _ (by decide) hx
      have hx3 := hpu.ko B _ _ _ (by decide) hx
      have d0 : w2.cell? ⟨B, 0, none⟩ = some (.int .i64 pa) := (cellH hx2 0).trans rfl
      have d1 : w2.cell? ⟨B, 1, none⟩ = some (.int .i64 pb) := (cellH hx2 1).trans rfl
      have e0 : w3.cell? ⟨B, 0, none⟩ = some (.int .i64 pa) := (cellH hx3 0).trans rfl
      have e1 : w3.cell? ⟨B, 1, none⟩ = some (.int .i64 pb) := (cellH hx3 1).trans rfl
      have hB3 : B < w3.heap.size := heap_lt hx3
      have b0d : W1.drew.cell? ⟨B, 0, none⟩ = some (.int .i64 pa) := b0
      have b1d : W1.drew.cell? ⟨B, 1, none⟩ = some (.int .i64 pb) := b1
      have HB3 := Lib.hid (hpu.bel _ _ (Nat.le_refl _) HBb.out.drew)
      have HG3d := Lib.hid (hpu.grp.step (Below.refl w3.heap.size w3).drew)
      have hlen2 : ((fun x => if pa = x then nbs (l.take k) pa ++ [pb] else nbs (l.take k) x) pb).length ≤ 1000 := by
        have h1 := hln pa
        have h2 := hln pb
        simp only
        split
        · simp; omega
        · omega
      obtain ⟨v2', w4, w5, hpv⟩ := HG3d.out.push HW2.out pa HB3.out.size hlen2
      clear hlen2
      have k1 := HG3d.out.look HW2.out
      have k2 : Sem.run Try.prog (Instr.lookup 59 (.map (some nb)) (.int .i64 pb) false) (w3.alloc (.cells #[.int .i64 pa] 3)).drew = .ok (gv (upm L pa v') pb) (w3.alloc (.cells #[.int .i64 pa] 3)).drew := (HG3d.out.step ((Below.refl w3.drew.heap.size w3.drew).alloc (Nat.le_refl _) (.cells #[.int .i64 pa] 3))).look HW2.out
      have happ2 : Sem.run Try.prog (Builtin.append_ #[22, 22] 22 #[gv (upm L pa v') pb, .slice (some ⟨w3.heap.size, 0, none⟩) 1 1]) (w3.alloc (.cells #[.int .i64 pa] 3)).drew = .ok v2' w4 := hpv.app
      have hupd2 := hpv.upd
      have HPV := Lib.hid hpv
      have hx4 := hpv.ko2 B _ _ _ (by decide) hx3
      have hx5 := hpv.ko B _ _ _ (by decide) hx3
      have f0 : w4.cell? ⟨B, 0, none⟩ = some (.int .i64 pa) := (cellH hx4 0).trans rfl
      have f1 : w4.cell? ⟨B, 1, none⟩ = some (.int .i64 pb) := (cellH hx4 1).trans rfl
      have g0 : w5.cell? ⟨B, 0, none⟩ = some (.int .i64 pa) := (cellH hx5 0).trans rfl
      have g1 : w5.cell? ⟨B, 1, none⟩ = some (.int .i64 pb) := (cellH hx5 1).trans rfl
      have e0d : w3.drew.cell? ⟨B, 0, none⟩ = some (.int .i64 pa) := e0
      have e1d : w3.drew.cell? ⟨B, 1, none⟩ = some (.int .i64 pb) := e1
      have HB5 := Lib.hid (hpv.bel _ _ (Nat.le_refl _) HB3.out.drew)
      have HG5 : Hid (Grp w5 w.heap.size nb (upm (upm L pa v') pb v2') (nbs (l.take (k + 1)))) := Lib.hid (hpv.grp.congr fun x => by
        rw [HTK.out, nbs_snoc])
      clear hpu hpv hx hx2 hx3 hx4 hx5
      generalize gv (upm L pa v') pb = v2 at *
      generalize gv L pa = v0 at *
      go_region_held3 (fun w' => w'.cell? ⟨B, 0, none⟩ = some (.int .i64 pa) ∧ w'.cell? ⟨B, 1, none⟩ = some (.int .i64 pb)) (first | exact ⟨b0, b1⟩ | exact ⟨b0d, b1d⟩ | exact ⟨d0, d1⟩ | exact ⟨e0, e1⟩ | go_keep) (refine step_append_run (by rfl) (.tmp 28) (.tmp 31) 22 (by rfl) v0 (.slice (some ⟨W1.heap.size, 0, none⟩) 1 1) _ _ (by simp [Act.eval, Act.put]) (by simp [Act.eval, Act.put]) happ ?_)
      all_goals
        go_wp2_with fail
        go_region_held3 (fun w' => w'.cell? ⟨B, 0, none⟩ = some (.int .i64 pa) ∧ w'.cell? ⟨B, 1, none⟩ = some (.int .i64 pb)) (first | exact ⟨e0, e1⟩ | exact ⟨e0d, e1d⟩ | exact ⟨f0, f1⟩ | exact ⟨g0, g1⟩ | go_keep) (refine step_append_run (by rfl) (.tmp 39) (.tmp 42) 22 (by rfl) v2 (.slice (some ⟨w3.heap.size, 0, none⟩) 1 1) _ _ (by simp [Act.eval, Act.put]) (by simp [Act.eval, Act.put]) happ2 ?_)
        all_goals
          go_wp2_with fail
          go_roundw
          case rel => exact ⟨k + 1, _, by omega, by go_num, HG5, HB5⟩
          case measure => simp [intOf]; omega
    · have hkm : k = m := by omega
      have HGF : Hid (Grp wr w.heap.size nb L (nbs l)) := Lib.hid (by have := HG.out; rwa [hkm, HML.out, List.take_length] at this)
      clear HG hkm
      have hbz := HB.out.size
      obtain ⟨ws, hins, hs1, hw1⟩ := (SetI.made wr).upd HA.out
      have hb1 : Below wr.heap.size wr ws := hw1.bel _ _ (Nat.le_refl _) ((Below.refl _ _).alloc (Nat.le_refl _) _)
      have HGS := Lib.hid (HGF.out.step hb1)
      have HBS := Lib.hid (HB.out.trans (hb1.mono hbz))
      have HSS : Hid (SetI ws wr.heap.size [a]) := Lib.hid hs1
      have HNE : Hid (nb ≠ wr.heap.size) := Lib.hid (by have := HGF.out.map.lt; omega)
      obtain ⟨mb, hmb⟩ : ∃ mb, mb = wr.heap.size := ⟨_, rfl⟩
      have HMB : Hid (w.heap.size ≤ mb) := Lib.hid (by omega)
      clear hs1 hw1 hb1 hbz HGF
      have hol := OwnI.snoc (w := ws.alloc (.cells #[.int .i64 a] 3)) (base := w.heap.size) (v := .slice (some ⟨ws.heap.size, 0, none⟩) 1 1) (l := []) (x := a) (World.ownsRow_lit ws #[.int .i64 a] 1 HBS.out.size (by unfold maxLen; omega) rfl)
      have hbl : Below ws.heap.size ws (ws.alloc (.cells #[.int .i64 a] 3)) := (Below.refl _ _).alloc (Nat.le_refl _) _
      have HD0 : Hid (Dfs (ws.alloc (.cells #[.int .i64 a] 3)) w.heap.size nb mb L l (.slice (some ⟨ws.heap.size, 0, none⟩) 1 1) [a] [a]) := Lib.hid ⟨HGS.out.step hbl, by rw [hmb]; exact HSS.out.step hbl, hol, fun x => by
        cases hv : (gv L x).ownBlock with
        | none => exact .inl rfl
        | some k =>
          right
          rintro e
          have := (HGS.out.own x).lt hv
          simp only [Value.ownBlock, Option.some.injEq] at e
          omega, by rw [hmb]; exact HNE.out, HMB.out⟩
      have HB0 := Lib.hid (HBS.out.trans (hbl.mono HBS.out.size))
      clear hol hbl HGS HBS HSS HNE
      have HUW : Hid (∀ y ∈ univ l a, W64 y) := Lib.hid fun y hy => by
        unfold univ at hy
        simp only [List.mem_cons, List.mem_flatMap] at hy
        rcases hy with rfl | ⟨p, hp, hy⟩
        · exact HA.out
        · simp at hy
          rcases hy with rfl | rfl
          · exact (HWF.out p hp).1
          · exact (HWF.out p hp).2
      go_wp2_with fail
      rw [← hmb]
      clear hmb
      generalize ws.alloc (.cells #[.int .i64 a] 3) = W2 at *
      generalize ws.heap.size = gs at *
      obtain ⟨i3, hi3, hz0, hz1, hz2⟩ := info_parts info3
      have HM120 : Hid (2 * l.length + 1 ≤ 121) := Lib.hid (by have := HML.out; omega)
      go_loopg [9] 300 (fun gk v9 wr => ∃ (st ks : List Int) (g n c : Nat), v9 = .slice (some ⟨g, 0, none⟩) n c ∧ Hid (st.length = n) ∧ n ≤ gk ∧ gk ≤ 300 ∧ Hid (st.length + 2 * (121 - ks.length) ≤ gk) ∧ Hid (Srch l a st ks none 0) ∧ Hid (Dfs wr w.heap.size nb mb L l v9 st ks) ∧ Hid (Below w.heap.size w wr))
      case atStart => exact ⟨[a], [a], gs, 1, 1, rfl, Lib.hid rfl, by omega, by omega, Lib.hid (by simp), Lib.hid (Srch.start l a), HD0, HB0⟩
      case round =>
        obtain ⟨st, ks, g, n, c, rfl, HN, hng, hg3, HMS, HS, HD, HBr⟩ := hrel
        clear HD0 HB0
        cases n with
        | zero =>
          have hst : st = [] := List.length_eq_zero_iff.1 HN.out
          subst hst
          go_wp2_with fail
          go_ret
          exact ⟨mb, ks, rfl, HD.out.set, HS.out.end_, HBr.out⟩
        | succ n =>
          obtain ⟨st', x, rfl⟩ : ∃ st' x, st = st' ++ [x] := by
            rcases List.eq_nil_or_concat st with h0 | ⟨r, y, h0⟩
            · have := HN.out; rw [h0] at this; simp at this
            · exact ⟨r, y, by rw [h0, List.concat_eq_append]⟩
          have hn' : st'.length = n := by have := HN.out; simpa using this
          have c0 : wr.cell? ⟨g, n, none⟩ = some (.int .i64 x) := HD.out.own.cell n x (by rw [List.getElem?_append_right (by omega)]; simp [hn'])
          have hgl : g < wr.heap.size := (HD.out.own.lt (g := g) rfl).2
          have hnc : n + 1 ≤ c := HD.out.own.n.2.2.2
          have HDP := Lib.hid HD.out.pop
          have HSP := Lib.hid HS.out.pop
          have hxw : W64 x := HUW.out x (HS.out.un x (HS.out.sub x (by simp)))
          have hlk := HD.out.grp.look hxw
          obtain ⟨qr, nr, cr, hrv, his⟩ := (HD.out.grp.own x).is
          have HIS := Lib.hid his
          have hnr : nr ≤ 200 := by have := nbs_len l x; have := his.1; have := HM120.out; omega
          have HGV := Lib.hid hrv
          rw [hrv] at hlk
          have HN' := Lib.hid hn'
          have HMS' : Hid (st'.length + 1 + 2 * (121 - ks.length) ≤ gk) := Lib.hid (by have := HMS.out; simpa using this)
          have hsub : IntKind.i64.wrap (((n + 1 : Nat) : Int) - 1) = (n : Int) := by rw [show ((n + 1 : Nat) : Int) - 1 = (n : Int) by omega]; exact IntWalk.i64_in _ (by omega)
          have hsub2 : IntKind.i64.wrap ((n : Int) + 1 - 1) = (n : Int) := by rw [show (n : Int) + 1 - 1 = (n : Int) by omega]; exact IntWalk.i64_in _ (by omega)
          have hpos : (0 : Int) < ((n + 1 : Nat) : Int) := by omega
          have hlt2 : (n : Int) < ((n + 1 : Nat) : Int) := by omega
          have hnn : (0 : Int) ≤ (n : Int) := by omega
          have hle2 : (n : Int) ≤ (c : Int) := by omega
          have hngk : n ≤ gk := by omega
          clear hn' hrv his HMS HN HS HD hng
          go_wp2_with fail
          clear c0 hlk hsub hsub2 hpos hlt2 hle2
          obtain ⟨wo, hwo⟩ : ∃ wo, wo = wr := ⟨_, rfl⟩
          subst hwo
          go_loopw [9, 69] (fun v9 i wr => ∃ (st2 ks2 : List Int) (g2 n2 c2 j : Nat), v9 = .slice (some ⟨g2, 0, none⟩) n2 c2 ∧ i = .int .i64 j ∧ j ≤ nr ∧ Hid (st2.length = n2) ∧ Hid (st2.length + 1 + 2 * (121 - ks2.length) ≤ gk) ∧ Hid (Srch l a st2 ks2 (some x) j) ∧ Hid (Dfs wr w.heap.size nb mb L l v9 st2 ks2) ∧ Hid (Below w.heap.size w wr) ∧ Hid (Below wo.heap.size wo wo)) (fun _ i _ => nr - (intOf i).toNat)
          case atStart => exact ⟨st', ks, g, n, c, 0, rfl, rfl, by omega, HN', HMS', HSP, HDP, HBr, Lib.hid (Below.refl _ _)⟩
          case round =>
            obtain ⟨st2, ks2, g2, n2, c2, j, rfl, rfl, hj, HN2, HMS2, HS2, HD2, HB2, _⟩ := hrel
            by_cases hltj : j < nr
            · have hrow : OwnI wr w.heap.size (.slice qr nr cr) (nbs l x) := by rw [← HGV.out]; exact HD2.out.grp.own x
              obtain ⟨hlr, h0 | ⟨gr, o2, rfl, hcr, hgr, hatr⟩⟩ := hrow.is'
              · omega
              obtain ⟨y, hy⟩ : ∃ y, (nbs l x)[j]? = some y := ⟨_, List.getElem?_eq_getElem (by omega)⟩
              have y0 := hatr j y hy
              have r1 : (0 : Int) ≤ (j : Int) := by omega
              have r2 : (j : Int) < (nr : Int) := by omega
              have HYW := Lib.hid (HUW.out y (nbs_univ (List.mem_of_getElem? hy)))
              have HY := Lib.hid hy
              have hb1 : Below wr.heap.size wr (wr.alloc (.cells #[] 51)) := (Below.refl _ _).alloc (Nat.le_refl _) _
              have HD3 := Lib.hid (HD2.out.step hb1)
              have HB3 := Lib.hid (HB2.out.trans (hb1.mono HB2.out.size))
              clear hlr hatr hrow hy hb1
              cases hin : inI ks2 y with
              | true =>
                have HS3 := Lib.hid (HS2.out.skip HY.out ((inI_iff _ _).1 hin))
                have HIN := Lib.hid hin
                clear hin
                go_wp2_with (at_lookup; refine wpList_setlook _ rfl _ _ rfl mb ks2 rfl HD2.out.set y HYW.out rfl ?_; rw [HIN.out])
                go_roundw
                case rel => exact ⟨st2, ks2, g2, n2, c2, j + 1, rfl, by go_num, by omega, HN2, HMS2, HS3, HD3, HB3, Lib.hid (Below.refl _ _)⟩
                case measure => simp [intOf]; omega
              | false =>
                have HS3 := Lib.hid (HS2.out.add HY.out (not_inI hin))
                have HIN := Lib.hid hin
                have hroom := HS2.out.room
                have hroom3 := HS3.out.room
                have HMS3 : Hid (st2.length + 1 + 1 + 2 * (121 - (ks2.length + 1)) ≤ gk) := Lib.hid (by have := HMS2.out; have := HM120.out; simp at hroom3; omega)
                have HL2 : Hid (st2.length ≤ 1000) := Lib.hid (by have := HMS2.out; omega)
                clear hin hroom hroom3
                go_wp2_with (first
                  | (at_lookup; refine wpList_setlook _ rfl _ _ rfl mb ks2 rfl HD2.out.set y HYW.out rfl ?_; rw [HIN.out])
                  | (at_mapUpdate; refine wpList_setupd _ rfl _ _ _ rfl mb ks2 rfl HD3.out.set y HYW.out rfl rfl ?_; intro w3 hs3 hw3; rw [addI_no HIN.out] at hs3; have HD4 := Lib.hid (HD3.out.met hs3 hw3); have HB4 := Lib.hid (hw3.bel _ _ HMB.out HB3.out); have hb5 : Below w3.heap.size w3 (w3.alloc (.cells #[.int .i64 y] 3)) := (Below.refl _ _).alloc (Nat.le_refl _) _; have HD5 := Lib.hid (HD4.out.step hb5); have HB5 := Lib.hid (HB4.out.trans (hb5.mono HB4.out.size)); have HROW : Hid ((w3.alloc (.cells #[.int .i64 y] 3)).ownsRow w.heap.size 3 1 (.slice (some ⟨g2, 0, none⟩) n2 c2) st2.length (st2.map (Value.int .i64))) := Lib.hid HD5.out.own; clear hs3 hw3 hb5)
                  | (at_builtin; refine wpList_append_lies _ rfl _ _ 22 rfl w.heap.size 3 i3 (.int .i64 0) 1 8 Try.underlying22 hi3 hz0 hz1 hz2 rfl (by omega) _ _ _ rfl HROW.out ⟨w3.heap.size, 0, none⟩ 1 1 [.int .i64 y] rfl rfl (one_new _ _ _) (one_cell _ _) (by omega) (by have := HL2.out; unfold maxLen; omega) (by have := HL2.out; omega) (by have := HB5.out.size; simp at this ⊢; omega) _ rfl ?_; intro g4 c4 w4 hown hgrow hat4 hlt4; have HD6 := Lib.hid (HD5.out.push (OwnI.snoc hown) hgrow hat4); have HB6 := Lib.hid (HB5.out.grown hgrow HB5.out.size (fun k hk => (HD5.out.own.lt hk).1)); clear hown hgrow hat4 hlt4))
                go_roundw
                case rel => exact ⟨st2 ++ [y], ks2 ++ [y], g4, st2.length + 1, c4, j + 1, by simp, by go_num, by omega, Lib.hid (by simp), Lib.hid (by have := HMS3.out; simpa using this), HS3, by simpa using HD6, HB6, Lib.hid (Below.refl _ _)⟩
                case measure => simp [intOf]; omega
            · have hjn : j = (nbs l x).length := by
                have := (HD2.out.grp.own x).1
                have h2 := HGV.out
                have h3 : OwnI wr w.heap.size (.slice qr nr cr) (nbs l x) := by rw [← HGV.out]; exact HD2.out.grp.own x
                have := h3.is'.1
                omega
              have HS3 := Lib.hid (HS2.out.over hjn)
              clear hjn
              go_wp2_with fail
              go_roundg (gk - 1)
              case rel => exact ⟨st2, ks2, g2, n2, c2, rfl, HN2, by have := HMS2.out; have := HN2.out; omega, by omega, Lib.hid (by have := HMS2.out; omega), HS3, HD2, HB2⟩
              case measure => have := HMS2.out; omega
end Go.Proofs.Ytggoajpemffbiaa
