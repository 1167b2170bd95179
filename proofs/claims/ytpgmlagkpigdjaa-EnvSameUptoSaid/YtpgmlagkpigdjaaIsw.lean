/-
  Is: an environment says what bindings of the document say.
-/
import Derived.Test.YtpgmlagkpigdjaaRop
import Derived.Test.YtpgmlagkpigdjaaOpn
import Derived.Test.YtpgmlagkpigdjaaEtw
namespace Go.Proofs.Ytpgmlagkpigdjaa
open Go.RowKit
set_option maxRecDepth 20000
set_option linter.unusedVariables false
set_option linter.unusedSimpArgs false

theorem held33 : Try.prog.stoodInHeld 33 = false := by kernel_rfl
theorem part4_0 (a b c d : Value) (w : World) : (part 3 #[a, b, c, d] 0).run Try.prog w = .ok a w := by simp [part, Try.isAgg3, Result.andThen]
theorem part4_1 (a b c d : Value) (w : World) : (part 3 #[a, b, c, d] 1).run Try.prog w = .ok b w := by simp [part, Try.isAgg3, Result.andThen]
theorem part4_2 (a b c d : Value) (w : World) : (part 25 #[a, b, c, d] 2).run Try.prog w = .ok c w := by simp [part, Try.isAgg25, Result.andThen]
theorem part4_3 (a b c d : Value) (w : World) : (part 25 #[a, b, c, d] 3).run Try.prog w = .ok d w := by simp [part, Try.isAgg25, Result.andThen]
theorem eqSelfP (p : Option Addr) (w : World) : (Op.equalIn 9999 25 (.pointer p) (.pointer p)).run Try.prog w = .ok true w := by
  rw [show (9999 : Nat) = 9998 + 1 from rfl]
  cases p with
  | none =>
    unfold Op.equalIn
    simp [run_underlying Try.underlying25, Result.andThen]
  | some a =>
    obtain ⟨j, hj, hjz⟩ := info57
    unfold Op.equalIn
    simp [run_underlying Try.underlying25, sizeOf, typeInfo, hj, hjz, run_sameAddr_same, Result.andThen]
/-- An item is itself. -/
theorem item_self (a b : Int) (p q : Option Addr) (w : World) : (Op.equal 33 (.agg #[.int .i64 a, .int .i64 b, .pointer p, .pointer q]) (.agg #[.int .i64 a, .int .i64 b, .pointer p, .pointer q])).run Try.prog w = .ok true w := by
  unfold Op.equal Op.maxDepth
  rw [show (10000 : Nat) = 9999 + 1 from rfl]
  unfold Op.equalIn
  simp [run_underlying Try.underlying33, held33, Result.andThen, part4_0, part4_1, part4_2, part4_3, eqI, eqSelfP]
theorem neq_item (a b : Int) (p q : Option Addr) (w : World) : (binOp .neq 33 (.agg #[.int .i64 a, .int .i64 b, .pointer p, .pointer q]) (.agg #[.int .i64 a, .int .i64 b, .pointer p, .pointer q])).run Try.prog w = .ok (.bool false) w := by
  simp only [binOp]
  simp [item_self]
theorem lastN_rep {w : World} {l : List Bn} {bs : List Bi} (h : RepL w l bs) (key : Ky) : ∀ k, lastN l key k = lastI bs key k := by
  have hk : ∀ k : Nat, ((l.map bnBi)[k]?.map (·.k)) = (bs[k]?.map (·.k)) := fun k => by
    cases hl : l[k]? with
    | none =>
      have h1 : l.length ≤ k := List.getElem?_eq_none_iff.1 hl
      rw [List.getElem?_map, hl, List.getElem?_eq_none (by rw [← h.len]; exact h1)]; rfl
    | some x =>
      obtain ⟨b, hb, hr⟩ := h.get hl
      rw [List.getElem?_map, hl, hb]
      simp [bnBi, ((repB_iff _ _ _).1 hr).1]
  intro k
  unfold lastN
  induction k with
  | zero => rfl
  | succ k ih => simp only [lastI, hk k, ih]
theorem visTo_rep {w : World} {l : List Bn} {bs : List Bi} (h : RepL w l bs) : ∀ k, k ≤ l.length → RepL w (visToN l k) (visTo bs k)
  | 0, _ => by simp only [visToN, visTo, RepL]
  | k + 1, hk => by
    have ih := visTo_rep h k (by omega)
    obtain ⟨x, hx⟩ : ∃ x, l[k]? = some x := ⟨_, List.getElem?_eq_getElem (by omega)⟩
    obtain ⟨b, hb, hr⟩ := h.get hx
    have he : lastN l x.h.k l.length = lastI bs b.k bs.length := by rw [lastN_rep h, ((repB_iff _ _ _).1 hr).1, h.len]
    by_cases hc : lastI bs b.k bs.length = some k
    · rw [visToN_yes hx (he.trans hc), visTo_yes hb hc]
      exact ih.snoc hr
    · rw [visToN_no hx (fun e => hc (he.symm.trans e)), visTo_no hb hc]
      exact ih
theorem vis_rep {w : World} {l : List Bn} {bs : List Bi} (h : RepL w l bs) : RepL w (visN l) (vis bs) := by
  unfold visN vis
  rw [← h.len]
  exact visTo_rep h l.length (Nat.le_refl _)
theorem map_len (w : World) (tb : Nat) (l : List (Ky × Value)) (h : MapV keyV w tb l) : (Builtin.len_ #[64] 3 #[.map (some tb)]).run Try.prog w = .ok (.int .i64 (l.length : Nat)) w := by
  obtain ⟨es, c, hb, hl, _⟩ := h
  have hs : es.size = l.length := by have := congrArg List.length hl; simpa using this
  simp [Builtin.len_, MapKept.run_getObj_map hb, Result.andThen, hs, goInt]
def TruePost (w : World) (e : Ending) (w' : World) : Prop := e = .returned (.bool true) ∧ Below w.heap.size w w'
theorem zero33 (w : World) : (zeroValue 33).run Try.prog w = .ok (.agg #[.int .i64 0, .int .i64 0, .pointer none, .pointer none]) w := by kernel_rfl
set_option maxHeartbeats 16000000 in
theorem is12 : ∀ (m : Nat) (l : List Bn), sizes l ≤ m → m ≤ 4000 → ∀ (w : World) (p : Option Addr) (q : Option Addr) (n c : Nat), EnvIs w p l → Bl w q n c l →
    Calls Try.prog 12 #[.pointer p, .slice q n c] w (TruePost w) := by
  intro m
  induction m using Nat.strongRecOn with
  | _ m ih =>
    intro l hl hm w p q n c he hb
    obtain ⟨L, hE, hR⟩ := he
    have hLl : L.length = l.length := by have := hR.len; simpa using this.symm
    have hl9 : l.length ≤ 4000 := by have := sizes_len l; omega
    have HL := Lib.hid hl
    have HM := Lib.hid hm
    have IH := Lib.hid ih
    have HA := Lib.hid hb.2
    have HN := Lib.hid hb.1.1
    have HVR := Lib.hid (vis_rep hR)
    have HLV : Hid (∀ b ∈ vis ((L.map (·.bi)).reverse), ∃ x, look L b.k = some x ∧ x.bi = b) := Lib.hid fun b hb' => look_vis L b hb'
    have HND : Hid (((vis ((L.map (·.bi)).reverse)).map (·.k)).Nodup) := Lib.hid (visTo_nodup _ _)
    have HK10 := Lib.hid (keys_any w p L hE (by omega))
    have HV25 : Hid (∀ W, Below w.heap.size w W → Calls Try.prog 25 #[.slice q n c] W (VisPost W (visN l))) := Lib.hid fun W hW => visible_any W q n c l (hb.1.step hW) (by have := hb.1.1; omega)
    have HT26 : Hid (∀ W, Below w.heap.size w W → Calls Try.prog 26 #[.pointer p] W (TabPost W (vis ((L.map (·.bi)).reverse)))) := Lib.hid fun W hW => table_any W p L (hE.step hW) (by omega)
    have HF11 : Hid (∀ W key, Below w.heap.size w W → Calls Try.prog 11 #[.pointer p, .agg #[.int .i64 key.1, .string key.2]] W (FindPost W (look L key))) := Lib.hid fun W key hW => find_any W p L key (hE.step hW)
    have HVL : Hid ((visN l).length = (vis ((L.map (·.bi)).reverse)).length) := Lib.hid (vis_rep hR).len
    have HVM : Hid (∀ x ∈ visN l, x ∈ l) := Lib.hid (visToN_mem l _)
    have hv9 : (visN l).length ≤ 4000 := by have := visToN_len l l.length; unfold visN; omega
    clear hl hm ih hb hE hR hLl hl9
    generalize vis ((L.map (·.bi)).reverse) = V at *
    obtain ⟨N, hNN⟩ : ∃ N, N = (visN l).length := ⟨_, rfl⟩
    have HNV : Hid (V.length = N) := Lib.hid (by rw [hNN, HVL.out])
    have HNN := Lib.hid hNN
    rw [← hNN] at hv9
    clear hNN
    go_enter Try.func12, Try.ntmps12
    go_wp2_with (first
      | (go_at_call 10; refine HK10.out.mono ?_; rintro e w1 ⟨v1, rfl, ho1, hb1⟩; have HO1 := Lib.hid ho1; have HB1 := Lib.hid hb1; clear ho1 hb1)
      | (go_at_call 25; refine (HV25.out _ HB1.out).mono ?_; rintro e w2 ⟨v2, rfl, ho2, hb2⟩; have HO2 := Lib.hid ho2; have HB2 := Lib.hid (HB1.out.trans (hb2.mono HB1.out.size)); have HO1b := Lib.hid (HO1.out.step hb2); clear ho2 hb2)
      | (go_at_call 26; refine (HT26.out _ HB2.out).mono ?_; rintro e w3 ⟨tb, rfl, hmv, hb3⟩; have HMV := Lib.hid hmv; have HB3 := Lib.hid (HB2.out.trans (hb3.mono HB2.out.size)); have HO1c := Lib.hid (HO1b.out.step hb3); have HO2c := Lib.hid (HO2.out.step hb3); obtain ⟨q1, n1, c1, rfl, hks⟩ := HO1c.out.ks; obtain ⟨q2, n2, c2, rfl, hbn⟩ := HO2c.out.bn; have h1 : n1 = N := (by rw [hks.1, List.length_map, HNV.out]); have h2 : n2 = N := (by rw [hbn.1, HNN.out]); subst h1; subst h2; have HKS := Lib.hid hks; have HBN := Lib.hid hbn; have hlen := map_len w3 tb _ hmv; rw [show (tabL V).length = n2 from (by unfold tabL; rw [List.length_map, HNV.out])] at hlen; clear hmv hb3 hks hbn))
    go_loopw [34] (fun i wr => ∃ k : Nat, k ≤ n2 ∧ i = .int .i64 k ∧ Hid (Below w3.heap.size w3 wr)) (fun i _ => n2 - (intOf i).toNat)
    case atStart => exact ⟨0, by omega, rfl, Lib.hid (Below.refl _ _)⟩
    case round =>
      obtain ⟨k, hk, rfl, HBW⟩ := hrel
      by_cases hlt : k < n2
      · obtain ⟨hn1, h0 | ⟨gk, rfl, hck, hgk, hkat⟩⟩ := HKS.out
        · omega
        obtain ⟨hn2, h0 | ⟨gb, ob, rfl, hcb, hgb, hat⟩⟩ := HBN.out
        · omega
        obtain ⟨y, hy⟩ : ∃ y, (visN l)[k]? = some y := ⟨_, List.getElem?_eq_getElem (by omega)⟩
        obtain ⟨b, hbv, hrep⟩ := HVR.out.get hy
        obtain ⟨e1, e2, e3, e4, e5⟩ := (repB_iff _ _ _).1 hrep
        have hbm := List.mem_of_getElem? hbv
        have hym := HVM.out y (List.mem_of_getElem? hy)
        obtain ⟨x, hx1, hx2⟩ := HLV.out b hbm
        have HIT : Hid (itO (some x) = .agg #[.int .i64 b.dc, .int .i64 b.via, .pointer b.pa, .pointer b.pm]) := Lib.hid (by simp only [itO]; rw [hx2])
        have HLK : Hid (lkm (tabL V) b.k = some (.agg #[.int .i64 b.dc, .int .i64 b.via, .pointer b.pa, .pointer b.pm])) := Lib.hid (tabL_look HND.out hbm)
        have HFX : Hid (∀ W, Below w.heap.size w W → Calls Try.prog 11 #[.pointer p, .agg #[.int .i64 b.k.1, .string b.k.2]] W (FindPost W (some x))) := Lib.hid fun W hW => by rw [← hx1]; exact HF11.out W b.k hW
        obtain ⟨u0, u1⟩ := (hkat k b.k (by rw [List.getElem?_map, hbv]; rfl)).step hgk HBW.out
        obtain ⟨v0, v1, v2, v3, v4, v5⟩ := (hat k y hy).step hgb HBW.out
        rw [← e1] at v0 v1
        rw [← e2] at v2
        rw [← e3] at v3
        have hgk2 : gk < wr.heap.size := Nat.lt_of_lt_of_le hgk HBW.out.size
        have hgb2 : gb < wr.heap.size := Nat.lt_of_lt_of_le hgb HBW.out.size
        have hly := (lies_iff _ _).1 ((allLie_iff _ _).1 HA.out y hym)
        have hsz := size_mem hym
        have hse := y.size_eq
        have H1 : Hid (∀ W, Below w.heap.size w W → Calls Try.prog 12 #[.pointer b.pa, .slice y.h.pp y.h.pn y.h.pc] W (TruePost W)) := Lib.hid fun W hW => IH.out (sizes y.ps) (by have := HL.out; omega) y.ps (Nat.le_refl _) (by have := HM.out; have := HL.out; omega) W _ _ _ _ (e4.step hW) (Bl.step ⟨hly.1, hly.2.2.1⟩ hW)
        have H2 : Hid (∀ W, Below w.heap.size w W → Calls Try.prog 12 #[.pointer b.pm, .slice y.h.qp y.h.qn y.h.qc] W (TruePost W)) := Lib.hid fun W hW => IH.out (sizes y.qs) (by have := HL.out; omega) y.qs (Nat.le_refl _) (by have := HM.out; have := HL.out; omega) W _ _ _ _ (e5.step hW) (Bl.step ⟨hly.2.1, hly.2.2.2⟩ hW)
        have r1 : (0 : Int) ≤ (k : Int) := by omega
        have r2 : (k : Int) < (n2 : Int) := by omega
        have HBWw := Lib.hid (HB3.out.trans (HBW.out.mono HB3.out.size))
        have hw3 : w.heap.size ≤ wr.heap.size := HBWw.out.size
        have hq31 : ∀ W, (binOp .neq 31 (.agg #[.int .i64 b.k.1, .string b.k.2]) (.agg #[.int .i64 b.k.1, .string b.k.2])).run Try.prog W = .ok (.bool false) W := fun W => by rw [neq31 b.k b.k W]; simp
        have hq33 : ∀ W, (binOp .neq 33 (.agg #[.int .i64 b.dc, .int .i64 b.via, .pointer b.pa, .pointer b.pm]) (.agg #[.int .i64 b.dc, .int .i64 b.via, .pointer b.pa, .pointer b.pm])).run Try.prog W = .ok (.bool false) W := fun W => neq_item _ _ _ _ W
        have HKK : Hid (∀ W, Below wr.heap.size wr W → W.cell? ⟨gk, k * 2, none⟩ = some (.int .i64 b.k.1) ∧ W.cell? ⟨gk, k * 2 + 1, none⟩ = some (.string b.k.2)) := Lib.hid fun W hW => ⟨(hW.cell (p := ⟨gk, _, none⟩) hgk2).trans u0, (hW.cell (p := ⟨gk, _, none⟩) hgk2).trans u1⟩
        generalize y.h.pp = pp at *
        generalize y.h.pn = pn at *
        generalize y.h.pc = pc at *
        generalize y.h.qp = qp at *
        generalize y.h.qn = qn at *
        generalize y.h.qc = qc at *
        clear hkat hat hy hbv hrep e1 e2 e3 e4 e5 hbm hym hx1 hx2 hly hsz hse hn1 hn2
        obtain ⟨Wa, hWa⟩ : ∃ Wa, Wa = wr.alloc (.cells #[.int .i64 b.k.1, .string b.k.2, .int .i64 b.dc, .int .i64 b.via, .slice pp pn pc, .slice qp qn qc] 45) := ⟨_, rfl⟩
        have HWA := Lib.hid hWa
        have HWaB : Hid (Below wr.heap.size wr Wa) := Lib.hid (by rw [hWa]; exact (Below.refl _ _).alloc (Nat.le_refl _) _)
        have HWab : Hid (Wa.heap[wr.heap.size]? = some (.cells #[.int .i64 b.k.1, .string b.k.2, .int .i64 b.dc, .int .i64 b.via, .slice pp pn pc, .slice qp qn qc] 45 (0, 0))) := Lib.hid (by rw [hWa]; exact heap_new _ _)
        clear hWa
        simp only [at0]
        go_wp2_with (first
          | (go_at_call 11; rw [← HWA.out]; refine (HFX.out _ (HBWw.out.trans (HWaB.out.mono hw3))).mono ?_; rintro e wf ⟨rfl, hbf⟩; rw [HIT.out]; simp only [Option.isSome]; have HBF := Lib.hid hbf; obtain ⟨z0, z1⟩ := HKK.out wf (HWaB.out.trans (hbf.mono HWaB.out.size)); have hgk3 : gk < wf.heap.size := Nat.lt_of_lt_of_le hgk2 (HWaB.out.trans (hbf.mono HWaB.out.size)).size; clear hbf)
          | (at_lookup; refine wpList_look _ rfl _ _ 64 true rfl key31_ok Try.underlying64 tb (tabL V) rfl ((HMV.out.step HBW.out).step ((HWaB.out.trans (HBF.out.mono HWaB.out.size)).alloc (HWaB.out.trans (HBF.out.mono HWaB.out.size)).size _)) (fun _ _ => trivial) b.k trivial rfl (zero33 _) ?_; rw [HLK.out]; simp only [if_true, Option.getD, Option.isSome])
          | go_in)
        obtain ⟨W9, hW9⟩ : ∃ W9, W9 = (wf.alloc (.cells #[.int .i64 b.dc, .int .i64 b.via, .pointer b.pa, .pointer b.pm] 33)).alloc (.cells #[.int .i64 b.dc, .int .i64 b.via, .pointer b.pa, .pointer b.pm] 33) := ⟨_, rfl⟩
        have HW9f : Hid (Below wf.heap.size wf W9) := Lib.hid (by rw [hW9]; exact ((Below.refl _ _).alloc (Nat.le_refl _) _).alloc (by simp) _)
        have h10 : W9.heap[wf.heap.size]? = some (.cells #[.int .i64 b.dc, .int .i64 b.via, .pointer b.pa, .pointer b.pm] 33 (0, 0)) := by rw [hW9]; exact heap_step (heap_new _ _) ((Below.refl _ _).alloc (Nat.le_refl _) _)
        have h12 : W9.heap[wf.heap.size + 1]? = some (.cells #[.int .i64 b.dc, .int .i64 b.via, .pointer b.pa, .pointer b.pm] 33 (0, 0)) := by
          rw [hW9, show wf.heap.size + 1 = (wf.alloc (.cells #[.int .i64 b.dc, .int .i64 b.via, .pointer b.pa, .pointer b.pm] 33)).heap.size by simp]; exact heap_new _ _
        have HFW9 := Lib.hid (HBF.out.trans (HW9f.out.mono HBF.out.size))
        have HRW9 := Lib.hid (HWaB.out.trans (HFW9.out.mono HWaB.out.size))
        have HWW9 := Lib.hid (HBWw.out.trans (HRW9.out.mono hw3))
        have HK : Hid (∀ W, Below W9.heap.size W9 W → W.cell? ⟨gk, k * 2, none⟩ = some (.int .i64 b.k.1) ∧ W.cell? ⟨gk, k * 2 + 1, none⟩ = some (.string b.k.2) ∧ W.cell? ⟨wr.heap.size, 0, none⟩ = some (.int .i64 b.k.1) ∧ W.cell? ⟨wr.heap.size, 1, none⟩ = some (.string b.k.2) ∧ W.cell? ⟨wr.heap.size, 2, none⟩ = some (.int .i64 b.dc) ∧ W.cell? ⟨wr.heap.size, 3, none⟩ = some (.int .i64 b.via) ∧ W.cell? ⟨wr.heap.size, 4, none⟩ = some (.slice pp pn pc) ∧ W.cell? ⟨wr.heap.size, 5, none⟩ = some (.slice qp qn qc) ∧ W.cell? ⟨wf.heap.size, 0, none⟩ = some (.int .i64 b.dc) ∧ W.cell? ⟨wf.heap.size, 1, none⟩ = some (.int .i64 b.via) ∧ W.cell? ⟨wf.heap.size, 2, none⟩ = some (.pointer b.pa) ∧ W.cell? ⟨wf.heap.size, 3, none⟩ = some (.pointer b.pm) ∧ W.cell? ⟨wf.heap.size + 1, 0, none⟩ = some (.int .i64 b.dc) ∧ W.cell? ⟨wf.heap.size + 1, 1, none⟩ = some (.int .i64 b.via) ∧ W.cell? ⟨wf.heap.size + 1, 2, none⟩ = some (.pointer b.pa) ∧ W.cell? ⟨wf.heap.size + 1, 3, none⟩ = some (.pointer b.pm)) := Lib.hid fun W hW => by
          obtain ⟨q0, q1⟩ := HKK.out W (HRW9.out.trans (hW.mono HRW9.out.size))
          have a9 := heap_step HWab.out (HFW9.out.trans (hW.mono HFW9.out.size))
          have a10 := heap_step h10 hW
          have a12 := heap_step h12 hW
          exact ⟨q0, q1, (cellH a9 0).trans rfl, (cellH a9 1).trans rfl, (cellH a9 2).trans rfl, (cellH a9 3).trans rfl, (cellH a9 4).trans rfl, (cellH a9 5).trans rfl, (cellH a10 0).trans rfl, (cellH a10 1).trans rfl, (cellH a10 2).trans rfl, (cellH a10 3).trans rfl, (cellH a12 0).trans rfl, (cellH a12 1).trans rfl, (cellH a12 2).trans rfl, (cellH a12 3).trans rfl⟩
        rw [← hW9]
        have hd9 := below_d W9
        have HD9 := Lib.hid (HWW9.out.trans (hd9.mono HWW9.out.size))
        have hgk9 : gk < W9.heap.size := Nat.lt_of_lt_of_le hgk3 HW9f.out.size
        clear z0 z1 u0 u1 v0 v1 v2 v3 v4 v5 hW9 h10 h12
        go_region_held3 (fun W => W.cell? ⟨gk, k * 2, none⟩ = some (.int .i64 b.k.1) ∧ W.cell? ⟨gk, k * 2 + 1, none⟩ = some (.string b.k.2) ∧ W.cell? ⟨wr.heap.size, 0, none⟩ = some (.int .i64 b.k.1) ∧ W.cell? ⟨wr.heap.size, 1, none⟩ = some (.string b.k.2) ∧ W.cell? ⟨wr.heap.size, 2, none⟩ = some (.int .i64 b.dc) ∧ W.cell? ⟨wr.heap.size, 3, none⟩ = some (.int .i64 b.via) ∧ W.cell? ⟨wr.heap.size, 4, none⟩ = some (.slice pp pn pc) ∧ W.cell? ⟨wr.heap.size, 5, none⟩ = some (.slice qp qn qc) ∧ W.cell? ⟨wf.heap.size, 0, none⟩ = some (.int .i64 b.dc) ∧ W.cell? ⟨wf.heap.size, 1, none⟩ = some (.int .i64 b.via) ∧ W.cell? ⟨wf.heap.size, 2, none⟩ = some (.pointer b.pa) ∧ W.cell? ⟨wf.heap.size, 3, none⟩ = some (.pointer b.pm) ∧ W.cell? ⟨wf.heap.size + 1, 0, none⟩ = some (.int .i64 b.dc) ∧ W.cell? ⟨wf.heap.size + 1, 1, none⟩ = some (.int .i64 b.via) ∧ W.cell? ⟨wf.heap.size + 1, 2, none⟩ = some (.pointer b.pa) ∧ W.cell? ⟨wf.heap.size + 1, 3, none⟩ = some (.pointer b.pm)) (first | exact HK.out _ hd9 | exact ⟨y0, y1, y2, y3, y4, y5, y6, y7, y8, y9, y10, y11, y12, y13, y14, y15⟩ | go_keep) (first
          | (go_at_call 12; have hbx := HB91.out; clear hbx; refine (H2.out _ (HWW9.out.trans (HB91.out.mono HWW9.out.size))).mono ?_; rintro e wj ⟨rfl, hbj⟩; have HB92 := Lib.hid (HB91.out.trans (hbj.mono HB91.out.size)); obtain ⟨y0, y1, y2, y3, y4, y5, y6, y7, y8, y9, y10, y11, y12, y13, y14, y15⟩ := HK.out wj HB92.out; clear hbj)
          | (go_at_call 12; refine (H1.out _ HD9.out).mono ?_; rintro e wi ⟨rfl, hbi⟩; have HB91 := Lib.hid (hd9.trans (hbi.mono (Nat.le_refl _))); obtain ⟨y0, y1, y2, y3, y4, y5, y6, y7, y8, y9, y10, y11, y12, y13, y14, y15⟩ := HK.out wi HB91.out; clear hbi))
        all_goals
          go_wp2_with fail
          go_roundw
          case rel => exact ⟨k + 1, by omega, by go_num, Lib.hid (HBW.out.trans ((HRW9.out.trans (HB92.out.mono HRW9.out.size)).mono HBW.out.size))⟩
          case measure => simp [intOf]; omega
      · go_wp2_with fail
        go_ret
        exact ⟨rfl, HB3.out.trans (HBW.out.mono HB3.out.size)⟩
end Go.Proofs.Ytpgmlagkpigdjaa
