/-
  The law EnvOpens, walked.
-/
import Derived.Test.YtpgmlagkpigdjaaEopA
namespace Go.Proofs.Ytpgmlagkpigdjaa
open Go.RowKit
set_option maxRecDepth 20000
set_option linter.unusedVariables false
set_option linter.unusedSimpArgs false

theorem neqSelfP (p : Option Addr) (w : World) : (binOp .neq 25 (.pointer p) (.pointer p)).run Try.prog w = .ok (.bool false) w := by
  have : (Op.equalIn 10000 25 (.pointer p) (.pointer p)).run Try.prog w = .ok true w := by
    rw [show (10000 : Nat) = 9999 + 1 from rfl]
    cases p with
    | none =>
      unfold Op.equalIn
      simp [run_underlying Try.underlying25, Result.andThen]
    | some a =>
      obtain ⟨j, hj, hjz⟩ := info57
      unfold Op.equalIn
      simp [run_underlying Try.underlying25, sizeOf, typeInfo, hj, hjz, run_sameAddr_same, Result.andThen]
  simp only [binOp]
  simp [Op.equal, Op.maxDepth, this]
theorem itO_agg (o : Option Bd) : ∃ a b p q, itO o = .agg #[.int .i64 a, .int .i64 b, .pointer p, .pointer q] := by
  cases o with
  | none => exact ⟨0, 0, none, none, rfl⟩
  | some x => exact ⟨_, _, _, _, rfl⟩
theorem few_dec (w : World) (p : Option Addr) (n c : Nat) (l : List Bn) (hb : Bl w p n c l) (hs : sizes l ≤ 2000000) (b : Bool) (hbd : decide (rsL 120 0 l ≤ 120) = b) :
    Calls Try.prog 6 #[.slice p n c] w fun e w' => e = .returned (.bool b) ∧ ∃ d, w' = w.drewN d := by
  have HZ : Hid (Calls Try.prog 15 #[.slice p n c, .int .i64 120] w (SizePost l 120 w)) := Lib.hid (size15 (sizes l) l (Nat.le_refl _) hs 120 w p n c (by omega) (by omega) hb)
  unfold SizePost at HZ
  clear hb hs
  generalize rsL 120 0 l = s at *
  have HBD := Lib.hid hbd
  clear hbd
  go_enter Try.func6, Try.ntmps6
  go_wp2_with (go_at_call 15; refine HZ.out.mono ?_; rintro e w1 ⟨rfl, hd⟩; have HD := Lib.hid hd; clear hd)
  go_ret
  exact ⟨by rw [← HBD.out]; simp, HD.out⟩
set_option maxHeartbeats 16000000 in
theorem envOpens_any (p : Option Addr) (n c : Nat) (l : List Bn) (q : Option Addr) (m d : Nat) (parts : List Bn) (via : Int) (w : World) (hb : Bl w p n c l) (hq : Bl w q m d parts) (hp0 : p = none → n = 0 ∧ c = 0) (hs1 : sizes l ≤ 2000000) (hs2 : sizes parts ≤ 2000000) :
    Calls Try.prog 3 #[.slice p n c, .slice q m d, .int .i64 via] w (TruePost w) := by
  have HAL : Hid (∀ W, Below w.heap.size w W → Calls Try.prog 7 #[] W (TruePost W)) := Lib.hid fun W hW => alive_any W
  have HF1 : Hid (∀ b, decide (rsL 120 0 l ≤ 120) = b → Calls Try.prog 6 #[.slice p n c] w fun e w' => e = .returned (.bool b) ∧ Below w.heap.size w w') := Lib.hid fun b hbb => by
    refine (few_dec w p n c l hb hs1 b hbb).mono ?_
    rintro e w' ⟨h1, d', h2⟩
    exact ⟨h1, by rw [h2]; exact below_dN w d'⟩
  have HF2 : Hid (∀ W b, Below w.heap.size w W → decide (rsL 120 0 parts ≤ 120) = b → Calls Try.prog 6 #[.slice q m d] W fun e w' => e = .returned (.bool b) ∧ Below w.heap.size w w') := Lib.hid fun W b hW hbb => by
    refine (few_dec W q m d parts (hq.step hW) hs2 b hbb).mono ?_
    rintro e w' ⟨h1, d', h2⟩
    exact ⟨h1, hW.trans (by rw [h2]; exact (below_dN W d').mono hW.size)⟩
  have HZ1 : Hid (rsL 120 0 l ≤ 120 → sizes l ≤ 120) := Lib.hid fun h => by have := (rsL_bd l 120 0 (by omega)).2.2 h; omega
  have HZ2 : Hid (rsL 120 0 parts ≤ 120 → sizes parts ≤ 120) := Lib.hid fun h => by have := (rsL_bd parts 120 0 (by omega)).2.2 h; omega
  have HB := Lib.hid hb
  have HQ := Lib.hid hq
  have HP0 := Lib.hid hp0
  clear hb hq hs1 hs2 hp0
  obtain ⟨i31, hi31, hy0, hy1, hy2⟩ : ∃ i31, Try.prog.info? 31 = some i31 ∧ i31.zero = some (.agg #[.int .i64 0, .string ByteArray.empty]) ∧ i31.size = 2 ∧ i31.bytes = 24 := by
    refine ⟨_, rfl, ?_, ?_, ?_⟩ <;> kernel_rfl
  by_cases h1 : rsL 120 0 l ≤ 120
  · have HX1 := Lib.hid (HF1.out true (by simpa using h1))
    have HS1 := Lib.hid (HZ1.out h1)
    by_cases h2 : rsL 120 0 parts ≤ 120
    · have HX2 : Hid (∀ W, Below w.heap.size w W → Calls Try.prog 6 #[.slice q m d] W fun e w' => e = .returned (.bool true) ∧ Below w.heap.size w w') := Lib.hid fun W hW => HF2.out W true hW (by simpa using h2)
      have HS2 := Lib.hid (HZ2.out h2)
      clear h1 h2 HF1 HF2 HZ1 HZ2
      have HMA : Hid (∀ W, Below w.heap.size w W → Calls Try.prog 8 #[.pointer none, .slice p n c] W (MadePost W [] l)) := Lib.hid fun W hW => made8 (sizes l) l (Nat.le_refl _) (by have := HS1.out; omega) W none [] p n c (HB.out.step hW) (EnvAt.nil _) (by simp)
      have HMP : Hid (∀ W, Below w.heap.size w W → Calls Try.prog 8 #[.pointer none, .slice q m d] W (MadePost W [] parts)) := Lib.hid fun W hW => made8 (sizes parts) parts (Nat.le_refl _) (by have := HS2.out; omega) W none [] q m d (HQ.out.step hW) (EnvAt.nil _) (by simp)
      have HLL : Hid (l.length ≤ 120 ∧ parts.length ≤ 120) := Lib.hid ⟨Nat.le_trans (sizes_len l) HS1.out, Nat.le_trans (sizes_len parts) HS2.out⟩
      go_enter Try.func3, Try.ntmps3
      go_wp2_with (first
        | (go_at_call 6; have hx := HBg.out; clear hx; refine (HX2.out _ HBg.out).mono ?_; rintro e wg ⟨rfl, hbg⟩; have HBf := Lib.hid hbg; clear hbg)
        | (go_at_call 6; refine HX1.out.mono ?_; rintro e wf ⟨rfl, hbf⟩; have HBg := Lib.hid hbf; clear hbf)
        | (go_at_call 8; have hx := HBa.out; clear hx; refine (HMP.out _ HBa.out).mono ?_; rintro e wp ⟨pb, nb, rfl, hp1, hp2, hp3, hp4⟩; rw [List.append_nil] at hp1; have HP1 := Lib.hid hp1; have HP2 := Lib.hid hp2; have HBp := Lib.hid (HBa.out.trans (hp4.mono HBa.out.size)); have HA1b := Lib.hid (HA1.out.step hp4); have HA2b := Lib.hid (RepL.step hp4 _ _ HA2.out); clear hp1 hp2 hp3 hp4)
        | (go_at_call 8; refine (HMA.out _ HBf.out).mono ?_; rintro e wa ⟨pa, na, rfl, ha1, ha2, ha3, ha4⟩; rw [List.append_nil] at ha1; have HA1 := Lib.hid ha1; have HA2 := Lib.hid ha2; have HBa := Lib.hid (HBf.out.trans (ha4.mono HBf.out.size)); clear ha1 ha2 ha3 ha4)
        | (go_at_call 9; have hnal : na.length ≤ 120 := (by have h1 := HA2.out.len; have h2 := HLL.out.1; simp only [List.length_reverse, List.length_map] at h1; omega); have hnbl : nb.length ≤ 120 := (by have h1 := HP2.out.len; have h2 := HLL.out.2; simp only [List.length_reverse, List.length_map] at h1; omega); refine (open9_any _ pa pb na nb via HA1b.out HP1.out (by omega) (by omega)).mono ?_; rintro e we ⟨pe, ne, rfl, he1, he2, he3, he4⟩; have HE1 := Lib.hid he1; have HE2 := Lib.hid he2; have HBe := Lib.hid (HBp.out.trans (he4.mono HBp.out.size)); have HA1c := Lib.hid (HA1b.out.step he4); have HA2c := Lib.hid (RepL.step he4 _ _ HA2b.out); have HP1c := Lib.hid (HP1.out.step he4); have HP2c := Lib.hid (RepL.step he4 _ _ HP2.out); have HNEL : Hid (ne.length ≤ 120 ∧ na.length ≤ 120) := Lib.hid ⟨(by have h1 := congrArg List.length he2; have h2 := visTo_len ((nb.map (·.bi)).reverse) ((nb.map (·.bi)).reverse).length; simp only [List.length_map, List.length_reverse] at h1 h2; unfold vis at h1; simp only [List.length_map, List.length_reverse] at h1; omega), hnal⟩; clear he1 he2 he3 he4 hnal hnbl)
        | (go_at_call 10; refine (keys_any _ pe (ne ++ na) HE1.out (by have := HNEL.out; simp; omega)).mono ?_; rintro e wk ⟨vk, rfl, hk1, hk2⟩; have HK1 := Lib.hid hk1; have HBk := Lib.hid (HBe.out.trans (hk2.mono HBe.out.size)); have HBek := Lib.hid hk2; have hkl : (vis (((ne ++ na).map (·.bi)).reverse)).length ≤ 240 := (by have h2 := visTo_len (((ne ++ na).map (·.bi)).reverse) (((ne ++ na).map (·.bi)).reverse).length; have h3 := HNEL.out; unfold vis; simp only [List.length_map, List.length_reverse, List.length_append] at h2 ⊢; omega); have hrow := hk1; unfold OwnK at hrow; have hbx := kcells_length ((vis (((ne ++ na).map (·.bi)).reverse)).map (·.k)); have hml : ((vis (((ne ++ na).map (·.bi)).reverse)).map (·.k)).length ≤ 240 := (by rw [List.length_map]; exact hkl); have HNW := Lib.hid (news2 wk (1, ⟨#[120]⟩)); have hbz := hk2.size; clear hk1 hk2)
        | (at_builtin; refine wpList_append_own _ rfl _ _ 28 rfl we.heap.size 31 i31 _ 2 24 Try.underlying28 hi31 hy0 hy1 hy2 rfl (by decide) _ _ _ rfl (World.ownsRow.alloc hrow _) ⟨_, 0, none⟩ 1 1 (kc (1, ⟨#[120]⟩)) rfl rfl HNW.out (one2 _) (by unfold maxLen; omega) (by omega) (by simp; omega) ?_; intro v' wz hown' hg3 hnil3; have HO' := Lib.hid (ownk_snoc hown'); have HGz := Lib.hid ((HBek.out.alloc hbz _).grown hg3 (by simp; omega) (fun j hj => (World.ownsRow.lt hrow j hj).1)); obtain ⟨qk, nk, ck, rfl, hks⟩ := HO'.out.ks; have HKS := Lib.hid hks; have hnk : nk ≤ 241 := (by rw [hks.1]; simp only [List.length_append, List.length_cons, List.length_nil]; omega); clear hown' hg3 hnil3 hrow hbx hml hkl hks hbz))
      have HZW := Lib.hid HGz.out
      go_loopw [41] (fun i wr => ∃ k : Nat, k ≤ nk ∧ i = .int .i64 k ∧ Hid (Below wz.heap.size wz wr)) (fun i _ => nk - (intOf i).toNat)
      case atStart => exact ⟨0, by omega, rfl, Lib.hid (Below.refl _ _)⟩
      case round =>
        obtain ⟨k, hk, rfl, HBW⟩ := hrel
        by_cases hlt : k < nk
        · obtain ⟨hn1, h0 | ⟨gk, rfl, hck, hgk, hkat⟩⟩ := HKS.out
          · omega
          obtain ⟨kk, hkk⟩ : ∃ kk, ((vis (((ne ++ na).map (·.bi)).reverse)).map (·.k) ++ [((1, ⟨#[120]⟩) : Ky)])[k]? = some kk := ⟨_, List.getElem?_eq_getElem (by omega)⟩
          obtain ⟨u0, u1⟩ := (hkat k kk hkk).step hgk HBW.out
          have hgk2 : gk < wr.heap.size := Nat.lt_of_lt_of_le hgk HBW.out.size
          have r1 : (0 : Int) ≤ (k : Int) := by omega
          have r2 : (k : Int) < (nk : Int) := by omega
          obtain ⟨Wa, hWa⟩ : ∃ Wa, Wa = wr.alloc (.cells #[.int .i64 kk.1, .string kk.2] 31) := ⟨_, rfl⟩
          have HWA := Lib.hid hWa
          have HWaB : Hid (Below wr.heap.size wr Wa) := Lib.hid (by rw [hWa]; exact (Below.refl _ _).alloc (Nat.le_refl _) _)
          have HWab : Hid (Wa.heap[wr.heap.size]? = some (.cells #[.int .i64 kk.1, .string kk.2] 31 (0, 0))) := Lib.hid (by rw [hWa]; exact heap_new _ _)
          have HWwe : Hid (Below we.heap.size we Wa) := Lib.hid (HZW.out.trans ((HBW.out.trans (HWaB.out.mono HBW.out.size)).mono HZW.out.size))
          have HKB : Hid (∀ W, Below Wa.heap.size Wa W → W.cell? ⟨wr.heap.size, 0, none⟩ = some (.int .i64 kk.1) ∧ W.cell? ⟨wr.heap.size, 1, none⟩ = some (.string kk.2)) := Lib.hid fun W hW => ⟨(cellH (heap_step HWab.out hW) 0).trans rfl, (cellH (heap_step HWab.out hW) 1).trans rfl⟩
          clear hkat hkk hn1 hWa
          simp only [at0]
          cases hoy : look nb kk with
          | some y =>
            obtain ⟨ox, hox, hoxb⟩ := open_some HE2.out hoy (La := na)
            obtain ⟨yd, yv, yp, yq, hyi⟩ : ∃ yd yv yp yq, itO (some y) = .agg #[.int .i64 yd, .int .i64 yv, .pointer yp, .pointer yq] ∧ itO (some ox) = .agg #[.int .i64 yd, .int .i64 via, .pointer yp, .pointer yq] := ⟨_, _, _, _, rfl, by simp only [itO, hoxb, sv]⟩
            obtain ⟨za, zb, zp, zq, hzi⟩ := itO_agg (look na kk)
            obtain ⟨zz, hzz⟩ : ∃ zz, zz = (look na kk).isSome := ⟨_, rfl⟩
            have HFE : Hid (∀ W, Below we.heap.size we W → Calls Try.prog 11 #[.pointer pe, .agg #[.int .i64 kk.1, .string kk.2]] W fun e w' => e = .returned (.tuple #[.agg #[.int .i64 yd, .int .i64 via, .pointer yp, .pointer yq], .bool true]) ∧ Below W.heap.size W w') := Lib.hid fun W hW => by
              have := find_any W pe (ne ++ na) kk (HE1.out.step hW)
              rw [hox] at this; unfold FindPost at this; rw [hyi.2] at this; exact this
            have HFP : Hid (∀ W, Below we.heap.size we W → Calls Try.prog 11 #[.pointer pb, .agg #[.int .i64 kk.1, .string kk.2]] W fun e w' => e = .returned (.tuple #[.agg #[.int .i64 yd, .int .i64 yv, .pointer yp, .pointer yq], .bool true]) ∧ Below W.heap.size W w') := Lib.hid fun W hW => by
              have := find_any W pb nb kk (HP1c.out.step hW)
              rw [hoy] at this; unfold FindPost at this; rw [hyi.1] at this; exact this
            have HFA : Hid (∀ W, Below we.heap.size we W → Calls Try.prog 11 #[.pointer pa, .agg #[.int .i64 kk.1, .string kk.2]] W fun e w' => e = .returned (.tuple #[.agg #[.int .i64 za, .int .i64 zb, .pointer zp, .pointer zq], .bool zz]) ∧ Below W.heap.size W w') := Lib.hid fun W hW => by
              have := find_any W pa na kk (HA1c.out.step hW)
              unfold FindPost at this; rw [hzi, ← hzz] at this; exact this
            clear hox hoxb hyi hzi hzz hoy
            have hqq := fun W => neqSelfP yp W
            go_wp2_with (first
              | (go_at_call 11; have hx := HW2.out; clear hx; refine (HFA.out _ (HW2w.out)).mono ?_; rintro e wf3 ⟨rfl, hf3⟩; have HF3 := Lib.hid (HW2.out.trans (hf3.mono HW2.out.size)); have k12 := heap_step HK12b.out hf3; have k14 := heap_step HK14.out hf3; have a0 := (cellH k12 0).trans rfl; have a1 := (cellH k12 1).trans rfl; have a2 := (cellH k12 2).trans rfl; have a3 := (cellH k12 3).trans rfl; have b0 := (cellH k14 0).trans rfl; have b1 := (cellH k14 1).trans rfl; have b2 := (cellH k14 2).trans rfl; have b3 := (cellH k14 3).trans rfl; have l12 := heap_lt k12; have l14 := heap_lt k14; clear hf3 k12 k14)
              | (go_at_call 11; have hx := HW1.out; clear hx; refine (HFP.out _ (HW1w.out)).mono ?_; rintro e wf2 ⟨rfl, hf2⟩; have HF2 := Lib.hid (HW1.out.trans (hf2.mono HW1.out.size)); obtain ⟨c0, c1⟩ := HKB.out wf2 HF2.out; have lb2 : wr.heap.size < wf2.heap.size := Nat.lt_of_lt_of_le (heap_lt HWab.out) HF2.out.size; have HK12a := Lib.hid (heap_step HK12.out hf2); have HW2 : Hid (Below Wa.heap.size Wa (wf2.alloc (.cells #[.int .i64 yd, .int .i64 yv, .pointer yp, .pointer yq] 33))) := Lib.hid (HF2.out.alloc HF2.out.size _); have HW2w := Lib.hid (HWwe.out.trans (HW2.out.mono HWwe.out.size)); have HK12b : Hid ((wf2.alloc (.cells #[.int .i64 yd, .int .i64 yv, .pointer yp, .pointer yq] 33)).heap[wf1.heap.size]? = some (.cells #[.int .i64 yd, .int .i64 via, .pointer yp, .pointer yq] 33 (0, 0))) := Lib.hid (heap_step HK12a.out ((Below.refl _ _).alloc (Nat.le_refl _) _)); have HK14 : Hid ((wf2.alloc (.cells #[.int .i64 yd, .int .i64 yv, .pointer yp, .pointer yq] 33)).heap[wf2.heap.size]? = some (.cells #[.int .i64 yd, .int .i64 yv, .pointer yp, .pointer yq] 33 (0, 0))) := Lib.hid (heap_new _ _); clear hf2)
              | (go_at_call 11; rw [← HWA.out]; refine (HFE.out _ HWwe.out).mono ?_; rintro e wf1 ⟨rfl, hf1⟩; have HF1 := Lib.hid hf1; obtain ⟨c0, c1⟩ := HKB.out wf1 hf1; have lb1 : wr.heap.size < wf1.heap.size := Nat.lt_of_lt_of_le (heap_lt HWab.out) hf1.size; have HW1 : Hid (Below Wa.heap.size Wa (wf1.alloc (.cells #[.int .i64 yd, .int .i64 via, .pointer yp, .pointer yq] 33))) := Lib.hid (hf1.alloc hf1.size _); have HW1w := Lib.hid (HWwe.out.trans (HW1.out.mono HWwe.out.size)); have HK12 : Hid ((wf1.alloc (.cells #[.int .i64 yd, .int .i64 via, .pointer yp, .pointer yq] 33)).heap[wf1.heap.size]? = some (.cells #[.int .i64 yd, .int .i64 via, .pointer yp, .pointer yq] 33 (0, 0))) := Lib.hid (heap_new _ _); clear hf1)
              | go_in)
            go_roundw
            case rel => exact ⟨k + 1, by omega, by go_num, Lib.hid (HBW.out.trans ((HWaB.out.trans (((HF3.out.alloc HF3.out.size _)).mono HWaB.out.size)).mono HBW.out.size))⟩
            case measure => simp [intOf]; omega
          | none =>
            have hox := open_none HE2.out hoy (La := na)
            obtain ⟨za, zb, zp, zq, hzi⟩ := itO_agg (look na kk)
            obtain ⟨zz, hzz⟩ : ∃ zz, zz = (look na kk).isSome := ⟨_, rfl⟩
            have HFE : Hid (∀ W, Below we.heap.size we W → Calls Try.prog 11 #[.pointer pe, .agg #[.int .i64 kk.1, .string kk.2]] W fun e w' => e = .returned (.tuple #[.agg #[.int .i64 za, .int .i64 zb, .pointer zp, .pointer zq], .bool zz]) ∧ Below W.heap.size W w') := Lib.hid fun W hW => by
              have := find_any W pe (ne ++ na) kk (HE1.out.step hW)
              rw [hox] at this; unfold FindPost at this; rw [hzi, ← hzz] at this; exact this
            have HFP : Hid (∀ W, Below we.heap.size we W → Calls Try.prog 11 #[.pointer pb, .agg #[.int .i64 kk.1, .string kk.2]] W fun e w' => e = .returned (.tuple #[.agg #[.int .i64 0, .int .i64 0, .pointer none, .pointer none], .bool false]) ∧ Below W.heap.size W w') := Lib.hid fun W hW => by
              have := find_any W pb nb kk (HP1c.out.step hW)
              rw [hoy] at this; exact this
            have HFA : Hid (∀ W, Below we.heap.size we W → Calls Try.prog 11 #[.pointer pa, .agg #[.int .i64 kk.1, .string kk.2]] W fun e w' => e = .returned (.tuple #[.agg #[.int .i64 za, .int .i64 zb, .pointer zp, .pointer zq], .bool zz]) ∧ Below W.heap.size W w') := Lib.hid fun W hW => by
              have := find_any W pa na kk (HA1c.out.step hW)
              unfold FindPost at this; rw [hzi, ← hzz] at this; exact this
            clear hox hzi hzz hoy
            have hqq := fun W => neq_item za zb zp zq W
            go_wp2_with (first
              | (go_at_call 11; have hx := HW2.out; clear hx; refine (HFA.out _ (HW2w.out)).mono ?_; rintro e wf3 ⟨rfl, hf3⟩; have HF3 := Lib.hid (HW2.out.trans (hf3.mono HW2.out.size)); have k12 := heap_step HK12b.out hf3; have k14 := heap_step HK14.out hf3; have a0 := (cellH k12 0).trans rfl; have a1 := (cellH k12 1).trans rfl; have a2 := (cellH k12 2).trans rfl; have a3 := (cellH k12 3).trans rfl; have b0 := (cellH k14 0).trans rfl; have b1 := (cellH k14 1).trans rfl; have b2 := (cellH k14 2).trans rfl; have b3 := (cellH k14 3).trans rfl; have l12 := heap_lt k12; have l14 := heap_lt k14; clear hf3 k12 k14)
              | (go_at_call 11; have hx := HW1.out; clear hx; refine (HFP.out _ (HW1w.out)).mono ?_; rintro e wf2 ⟨rfl, hf2⟩; have HF2 := Lib.hid (HW1.out.trans (hf2.mono HW1.out.size)); obtain ⟨c0, c1⟩ := HKB.out wf2 HF2.out; have lb2 : wr.heap.size < wf2.heap.size := Nat.lt_of_lt_of_le (heap_lt HWab.out) HF2.out.size; have HK12a := Lib.hid (heap_step HK12.out hf2); have HW2 : Hid (Below Wa.heap.size Wa (wf2.alloc (.cells #[.int .i64 0, .int .i64 0, .pointer none, .pointer none] 33))) := Lib.hid (HF2.out.alloc HF2.out.size _); have HW2w := Lib.hid (HWwe.out.trans (HW2.out.mono HWwe.out.size)); have HK12b : Hid ((wf2.alloc (.cells #[.int .i64 0, .int .i64 0, .pointer none, .pointer none] 33)).heap[wf1.heap.size]? = some (.cells #[.int .i64 za, .int .i64 zb, .pointer zp, .pointer zq] 33 (0, 0))) := Lib.hid (heap_step HK12a.out ((Below.refl _ _).alloc (Nat.le_refl _) _)); have HK14 : Hid ((wf2.alloc (.cells #[.int .i64 0, .int .i64 0, .pointer none, .pointer none] 33)).heap[wf2.heap.size]? = some (.cells #[.int .i64 0, .int .i64 0, .pointer none, .pointer none] 33 (0, 0))) := Lib.hid (heap_new _ _); clear hf2)
              | (go_at_call 11; rw [← HWA.out]; refine (HFE.out _ HWwe.out).mono ?_; rintro e wf1 ⟨rfl, hf1⟩; have HF1 := Lib.hid hf1; obtain ⟨c0, c1⟩ := HKB.out wf1 hf1; have lb1 : wr.heap.size < wf1.heap.size := Nat.lt_of_lt_of_le (heap_lt HWab.out) hf1.size; have HW1 : Hid (Below Wa.heap.size Wa (wf1.alloc (.cells #[.int .i64 za, .int .i64 zb, .pointer zp, .pointer zq] 33))) := Lib.hid (hf1.alloc hf1.size _); have HW1w := Lib.hid (HWwe.out.trans (HW1.out.mono HWwe.out.size)); have HK12 : Hid ((wf1.alloc (.cells #[.int .i64 za, .int .i64 zb, .pointer zp, .pointer zq] 33)).heap[wf1.heap.size]? = some (.cells #[.int .i64 za, .int .i64 zb, .pointer zp, .pointer zq] 33 (0, 0))) := Lib.hid (heap_new _ _); clear hf1)
              | go_in)
            go_roundw
            case rel => exact ⟨k + 1, by omega, by go_num, Lib.hid (HBW.out.trans ((HWaB.out.trans (((HF3.out.alloc HF3.out.size _)).mono HWaB.out.size)).mono HBW.out.size))⟩
            case measure => simp [intOf]; omega
        · have hwe := HBe.out.size
          have hlr : l.length ≤ 120 := HLL.out.1
          have hpr : parts.length ≤ 120 := HLL.out.2
          have hV : ((ne ++ na).map (·.bi)).reverse = (na.map (·.bi)).reverse ++ (vis ((nb.map (·.bi)).reverse)).map (sv via) := by
            rw [List.map_append, List.reverse_append, HE2.out, List.reverse_reverse]
          have hT : (((ne ++ na).take ne.length).map (·.bi)).reverse = (vis ((nb.map (·.bi)).reverse)).map (sv via) := by
            rw [List.take_left, HE2.out, List.reverse_reverse]
          have hRV : RepL we ((visN parts).map (setV via)) ((vis ((nb.map (·.bi)).reverse)).map (sv via)) := RepL.setV via (vis_rep HP2c.out)
          have HRV := Lib.hid hRV
          have HEI : Hid (EnvIs we pe (openN l parts via)) := Lib.hid ⟨ne ++ na, HE1.out, by rw [hV]; exact RepL.append HA2c.out hRV⟩
          have HAI : Hid (EnvIs we pa l) := Lib.hid ⟨na, HA1c.out, HA2c.out⟩
          have HPI : Hid (EnvIs we pb parts) := Lib.hid ⟨nb, HP1c.out, HP2c.out⟩
          have hso := sizes_openN l parts via
          have hso2 := sizes_openN [] parts via
          have hs1 := HS1.out
          have hs2 := HS2.out
          have hs0 : sizes ([] : List Bn) = 0 := rfl
          have HBW' : Hid (∀ W, Below we.heap.size we W → Below w.heap.size w W) := Lib.hid fun W hW => HBe.out.trans (hW.mono hwe)
          have H13 : Hid (∀ W, Below we.heap.size we W → Calls Try.prog 13 #[.slice p n c, .slice q m d, .int .i64 via] W (VisPost W (openN l parts via))) := Lib.hid fun W hW =>
            open13_any W p n c l q m d parts via (HB.out.1.step (HBW'.out W hW)) HP0.out (HQ.out.1.step (HBW'.out W hW)) (by have := HB.out.1.1; omega) (by have := HQ.out.1.1; omega)
          have H13b : Hid (∀ W, Below we.heap.size we W → Calls Try.prog 13 #[.slice none 0 0, .slice q m d, .int .i64 via] W (VisPost W (openN [] parts via))) := Lib.hid fun W hW =>
            open13_any W none 0 0 [] q m d parts via ⟨rfl, .inl rfl⟩ (fun _ => ⟨rfl, rfl⟩) (HQ.out.1.step (HBW'.out W hW)) (by omega) (by have := HQ.out.1.1; omega)
          have H12e : Hid (∀ W q' n' c', Below we.heap.size we W → BnIn W q' n' c' (openN l parts via) → Calls Try.prog 12 #[.pointer pe, .slice q' n' c'] W (TruePost W)) := Lib.hid fun W q' n' c' hW hb =>
            is12 _ _ (Nat.le_refl _) (by omega) W _ _ _ _ (HEI.out.step hW) ⟨hb, lies_openN (HB.out.step (HBW'.out W hW)).2 (HQ.out.step (HBW'.out W hW)).2⟩
          have H12a : Hid (∀ W, Below we.heap.size we W → Calls Try.prog 12 #[.pointer pa, .slice p n c] W (TruePost W)) := Lib.hid fun W hW =>
            is12 _ _ (Nat.le_refl _) (by omega) W _ _ _ _ (HAI.out.step hW) (HB.out.step (HBW'.out W hW))
          have H12p : Hid (∀ W, Below we.heap.size we W → Calls Try.prog 12 #[.pointer pb, .slice q m d] W (TruePost W)) := Lib.hid fun W hW =>
            is12 _ _ (Nat.le_refl _) (by omega) W _ _ _ _ (HPI.out.step hW) (HQ.out.step (HBW'.out W hW))
          have H14 : Hid (∀ W, Below we.heap.size we W → Calls Try.prog 14 #[.pointer pe, .pointer pa] W (AndPost W [] ((vis ((nb.map (·.bi)).reverse)).map (sv via)))) := Lib.hid fun W hW => by
            rw [← hT]
            exact since_any W pe pa (ne ++ na) na ne.length (HE1.out.step hW) (HA1c.out.step hW) (by have := HNEL.out; simp; omega) (by simp) (open_since HE1.out.dec)
          have H12s : Hid (∀ W W2 ps new q' n' c', Below we.heap.size we W → Below W.heap.size W W2 → EnvAt W ps (new ++ []) → new.map (·.bi) = ((vis ((nb.map (·.bi)).reverse)).map (sv via)).reverse → BnIn W2 q' n' c' (openN [] parts via) → Calls Try.prog 12 #[.pointer ps, .slice q' n' c'] W2 (TruePost W2)) := Lib.hid fun W W2 ps new q' n' c' hW hW2 he hn hb => by
            have hbe := hW.trans (hW2.mono hW.size)
            refine is12 _ _ (Nat.le_refl _) (by omega) W2 _ _ _ _ (EnvIs.step ⟨new, by simpa using he, ?_⟩ hW2) ⟨hb, lies_openN (by simp [AllLie]) (HQ.out.step (HBW'.out W2 hbe)).2⟩
            rw [hn, List.reverse_reverse]
            show RepL W ([] ++ (visN parts).map (setV via)) _
            exact RepL.step hW _ _ HRV.out
          have HZ : Hid (Below we.heap.size we wr) := Lib.hid (HZW.out.trans (HBW.out.mono HZW.out.size))
          clear hwe hlr hpr hV hT hRV hso hso2 hs1 hs2 hs0
          go_wp2_with (first
            | (go_at_call 7; have hx := HBs.out; clear hx; refine (HAL.out _ (HBW'.out _ HBs.out)).mono ?_; rintro e w9 ⟨rfl, hb9⟩; have HB9 := Lib.hid (HBs.out.trans (hb9.mono HBs.out.size)); clear hb9)
            | (go_at_call 12; have hx := HO2.out; clear hx; refine (H12s.out _ _ _ _ _ _ _ HB14.out HB15.out HN1.out HN2.out HO2.out).mono ?_; rintro e w8 ⟨rfl, hb8⟩; have HBs := Lib.hid (HB13b.out.trans (hb8.mono HB13b.out.size)); clear hb8)
            | (go_at_call 13; have hx := HB14.out; clear hx; refine (H13b.out _ HB14.out).mono ?_; rintro e w7 ⟨v7, rfl, ho7, hb7⟩; obtain ⟨q7, n7, c7, rfl, hbn7⟩ := ho7.bn; have HO2 := Lib.hid hbn7; have HB15 := Lib.hid hb7; have HB13b := Lib.hid (HB14.out.trans (hb7.mono HB14.out.size)); clear hbn7 hb7 ho7)
            | (go_at_call 14; refine (H14.out _ HB12p.out).mono ?_; rintro e w6 ⟨ps, new, rfl, hn1, hn2, hn3, hb6⟩; have HN1 := Lib.hid hn1; have HN2 := Lib.hid hn2; have HB14 := Lib.hid (HB12p.out.trans (hb6.mono HB12p.out.size)); clear hn1 hn2 hn3 hb6)
            | (go_at_call 12; have hx := HB12a.out; clear hx; refine (H12p.out _ HB12a.out).mono ?_; rintro e w5 ⟨rfl, hb5⟩; have HB12p := Lib.hid (HB12a.out.trans (hb5.mono HB12a.out.size)); clear hb5)
            | (go_at_call 12; have hx := HB12e.out; clear hx; refine (H12a.out _ HB12e.out).mono ?_; rintro e w4 ⟨rfl, hb4⟩; have HB12a := Lib.hid (HB12e.out.trans (hb4.mono HB12e.out.size)); clear hb4)
            | (go_at_call 12; have hx := HO1.out; clear hx; refine (H12e.out _ _ _ _ HB13.out HO1.out).mono ?_; rintro e w3 ⟨rfl, hb3⟩; have HB12e := Lib.hid (HB13.out.trans (hb3.mono HB13.out.size)); clear hb3)
            | (go_at_call 13; refine (H13.out _ HZ.out).mono ?_; rintro e w2 ⟨v2, rfl, ho2, hb2⟩; obtain ⟨q2, n2, c2, rfl, hbn2⟩ := ho2.bn; have HO1 := Lib.hid hbn2; have HB13 := Lib.hid (HZ.out.trans (hb2.mono HZ.out.size)); clear hbn2 hb2 ho2))
          go_ret
          exact ⟨rfl, HBW'.out _ HB9.out⟩
    · have HX2 : Hid (∀ W, Below w.heap.size w W → Calls Try.prog 6 #[.slice q m d] W fun e w' => e = .returned (.bool false) ∧ Below w.heap.size w w') := Lib.hid fun W hW => HF2.out W false hW (by simpa using h2)
      clear h1 h2 HF1 HF2 HZ1 HZ2
      generalize hqq : Value.slice q m d = Q at *
      generalize hpp : Value.slice p n c = PP at *
      go_enter Try.func3, Try.ntmps3
      go_wp2_with (first
        | (go_at_call 6; have hx := HBg.out; clear hx; refine (HX2.out _ HBg.out).mono ?_; rintro e wg ⟨rfl, hbg⟩; have HBf := Lib.hid hbg; clear hbg)
        | (go_at_call 6; refine HX1.out.mono ?_; rintro e wf ⟨rfl, hbf⟩; have HBg := Lib.hid hbf; clear hbf)
        | (go_at_call 7; refine (HAL.out _ HBf.out).mono ?_; rintro e w9 ⟨rfl, hb9⟩; have HB9 := Lib.hid (HBf.out.trans (hb9.mono HBf.out.size)); clear hb9))
      go_ret
      exact ⟨rfl, HB9.out⟩
  · have HX1 := Lib.hid (HF1.out false (by simpa using h1))
    clear h1 HF1 HF2 HZ1 HZ2
    go_enter Try.func3, Try.ntmps3
    go_wp2_with (first
      | (go_at_call 6; refine HX1.out.mono ?_; rintro e wf ⟨rfl, hbf⟩; have HBf := Lib.hid hbf; clear hbf)
      | (go_at_call 7; refine (HAL.out _ HBf.out).mono ?_; rintro e w9 ⟨rfl, hb9⟩; have HB9 := Lib.hid (HBf.out.trans (hb9.mono HBf.out.size)); clear hb9))
    go_ret
    exact ⟨rfl, HB9.out⟩
end Go.Proofs.Ytpgmlagkpigdjaa
