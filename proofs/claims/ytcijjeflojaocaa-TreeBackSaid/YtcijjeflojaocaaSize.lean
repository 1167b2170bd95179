/-
  How many parts a branch has, up to a bound; how many names; few.
-/
import Derived.Test.YtcijjeflojaocaaBase
import Derived.Lib.MinMax
namespace Go.Proofs.Ytcijjeflojaocaa
open Go.RowKit
set_option linter.unusedVariables false
set_option linter.unusedSimpArgs false

theorem sizes_take_succ {ks : List Br} {k : Nat} (h : k < ks.length) : sizes (ks.take (k + 1)) = sizes (ks.take k) + ks[k].size := by
  rw [List.take_succ_eq_append_getElem h, sizes_append]; simp [sizes]
theorem sizes_take_le (ks : List Br) (k : Nat) : sizes (ks.take k) ≤ sizes ks := by
  conv => rhs; rw [← List.take_append_drop k ks, sizes_append]
  omega
theorem sizes_take_ge {ks : List Br} {k : Nat} (h : k ≤ ks.length) : k ≤ sizes (ks.take k) := by
  have := sizes_len (ks.take k); rw [List.length_take_of_le h] at this; exact this

set_option maxHeartbeats 1000000 in
theorem size_any (b : Br) : ∀ (most : Nat) (w : World), b.Lies w → most ≤ 1000 →
    Calls Try.prog 29 #[b.h.val, .int .i64 most] w fun e w' => e = .returned (.int .i64 ((min b.size (most + 1) : Nat) : Int)) ∧ Below w.heap.size w w' := by
  induction b using Br.ind with
  | hP h ks ih =>
    intro most w hl hmost
    obtain ⟨hk, hm, hf, ht, np, nn, nc, ns, kp, kn, kc⟩ := h
    obtain ⟨_, hkids, hall⟩ := (lies_iff _ _).1 hl
    simp only [Br.h, Br.ks] at hkids hall
    have hkn : kn = ks.length := hkids.1
    subst hkn
    have HR : Hid (∀ m, m = min (Br.mk ⟨hk, hm, hf, ht, np, nn, nc, ns, kp, ks.length, kc⟩ ks).size (most + 1) → (.int .i64 (m : Int) : Value) = .int .i64 ((min (Br.mk ⟨hk, hm, hf, ht, np, nn, nc, ns, kp, ks.length, kc⟩ ks).size (most + 1) : Nat) : Int)) := Lib.hid (fun m e => by rw [e])
    have hsz : (Br.mk ⟨hk, hm, hf, ht, np, nn, nc, ns, kp, ks.length, kc⟩ ks).size = sizes ks + 1 := by simp only [Br.size]
    have hb1 := brAt_new w ⟨hk, hm, hf, ht, np, nn, nc, ns, kp, ks.length, kc⟩ 25
    have hbe1 : Below w.heap.size w (w.alloc (.cells #[.int .i64 hk, .int .i64 hm, .int .i64 hf, .int .i64 ht, .slice np nn nc, .slice kp ks.length kc] 25)) := (Below.refl _ _).alloc (Nat.le_refl _) _
    have hs1 : (w.alloc (.cells #[.int .i64 hk, .int .i64 hm, .int .i64 hf, .int .i64 ht, .slice np nn nc, .slice kp ks.length kc] 25)).heap.size = w.heap.size + 1 := by simp
    have hk1 := hkids.step hbe1
    have hall1 : ∀ x ∈ ks, x.Lies _ := fun x hx => (hall x hx).step _ hbe1
    have HK := Lib.hid hk1
    have HL := Lib.hid hall1
    have HB := Lib.hid hbe1
    have HC := Lib.hid hb1
    have HI := Lib.hid ih
    have HS := Lib.hid hs1
    clear hk1 hall1 hbe1 hb1 ih hkids hall hl hs1
    simp only [Br.h]
    go_enter Try.func29, Try.ntmps29
    go_wp2
    generalize w.alloc (.cells #[.int .i64 hk, .int .i64 hm, .int .i64 hf, .int .i64 ht, .slice np nn nc, .slice kp ks.length kc] 25) = w1 at *
    go_loopw [5, 6] (fun n i wr => ∃ k m : Nat, k ≤ ks.length ∧ n = .int .i64 m ∧ i = .int .i64 k ∧ m = min (sizes (ks.take k) + 1) (most + 1) ∧ Below w1.heap.size w1 wr) (fun _ i _ => ks.length - (intOf i).toNat)
    case atStart => exact ⟨0, 1, by omega, rfl, rfl, by simp [sizes], Below.refl _ _⟩
    case round =>
      obtain ⟨k, m, hk0, rfl, rfl, hm0, hbe⟩ := hrel
      have hc := (HC.out.step (by have := HS.out; omega) hbe)
      have a5 := hc.2.2.2.2.2
      simp only [Nat.zero_add] at a5
      clear hc
      by_cases hlt : k < ks.length
      · by_cases hle : m ≤ most
        · obtain ⟨b0, off, rfl, hcap, hb0, hkat⟩ : ∃ b0 off, kp = some ⟨b0, off, none⟩ ∧ ks.length ≤ kc ∧ b0 < wr.heap.size ∧ KidsAt wr b0 off ks := by
            rcases (HK.out.step hbe).2 with h0 | h1
            · omega
            · exact h1
          obtain ⟨c0, c1, c2, c3, c4, c5⟩ := hkat k hlt
          have hxl := (HL.out ks[k] (List.getElem_mem hlt)).step _ hbe
          have hxi := HI.out ks[k] (List.getElem_mem hlt) (most - m) wr hxl (by omega)
          have hnext : min (sizes (ks.take (k + 1)) + 1) (most + 1) = m + min ks[k].size (most - m + 1) := by
            rw [sizes_take_succ hlt]; have := ks[k].size_pos; omega
          have hk1000 : k ≤ 1000 := by have := sizes_take_ge hk0; omega
          have HN := Lib.hid hnext
          have HX := Lib.hid hxi
          have hmm : m ≤ 1000 := by omega
          clear hm0 hnext hxi hkat hxl
          obtain ⟨q, hq⟩ : ∃ q : Nat, q = most - m := ⟨_, rfl⟩
          have hsub : (most : Int) - (m : Int) = (q : Int) := by omega
          rw [← hq] at HX HN
          clear hq
          generalize ks[k] = x at *
          obtain ⟨z, hz⟩ : ∃ z : Nat, z = min x.size (q + 1) := ⟨_, rfl⟩
          rw [← hz] at HX HN
          have hz1 : z ≤ q + 1 := by omega
          have hq1 : q ≤ 1000 := by omega
          clear hz
          go_wp2_with (go_at_call 29; refine HX.out.mono ?_; rintro e w2 ⟨rfl, hb2⟩)
          go_roundw
          case rel => exact ⟨k + 1, m + z, by omega, by go_num, by go_num, HN.out.symm, hbe.trans (hb2.mono hbe.size)⟩
          case measure => simp [intOf]; omega
        · have hr : m = min (Br.mk ⟨hk, hm, hf, ht, np, nn, nc, ns, kp, ks.length, kc⟩ ks).size (most + 1) := by
            rw [hsz]; have := sizes_take_le ks k; omega
          have HRR := Lib.hid (HR.out m hr)
          have hbb := Lib.hid (HB.out.trans (hbe.mono (by have := HS.out; omega)))
          clear hr hm0 hsz
          go_wp2
          go_ret
          exact ⟨congrArg _ HRR.out, hbb.out⟩
      · have hr : m = min (Br.mk ⟨hk, hm, hf, ht, np, nn, nc, ns, kp, ks.length, kc⟩ ks).size (most + 1) := by
          rw [hsz, hm0, List.take_of_length_le (by omega)]
        have HRR := Lib.hid (HR.out m hr)
        have hbb := Lib.hid (HB.out.trans (hbe.mono (by have := HS.out; omega)))
        clear hr hm0 hsz
        go_wp2
        go_ret
        exact ⟨congrArg _ HRR.out, hbb.out⟩

mutual
/-- How many names. -/
def Br.names : Br → Nat
  | .mk h ks => min h.nn 1000 + namesAll ks
def namesAll : List Br → Nat
  | [] => 0
  | b :: r => b.names + namesAll r
end
theorem Br.names_eq (b : Br) : b.names = min b.h.nn 1000 + namesAll b.ks := by cases b; simp only [Br.names, Br.h, Br.ks]
theorem namesAll_append (a b : List Br) : namesAll (a ++ b) = namesAll a + namesAll b := by
  induction a with
  | nil => simp [namesAll]
  | cons x r ih => simp only [List.cons_append, namesAll, ih]; omega
theorem namesAll_take_succ {ks : List Br} {k : Nat} (h : k < ks.length) : namesAll (ks.take (k + 1)) = namesAll (ks.take k) + ks[k].names := by
  rw [List.take_succ_eq_append_getElem h, namesAll_append]; simp [namesAll]
theorem namesAll_le_of {ks : List Br} (ih : ∀ b ∈ ks, b.names ≤ 1000 * b.size) : namesAll ks ≤ 1000 * sizes ks := by
  induction ks with
  | nil => simp [namesAll]
  | cons x r ih' =>
    have h1 := ih x (by simp)
    have h2 := ih' (fun b hb => ih b (by simp [hb]))
    simp only [namesAll, sizes]; omega
theorem names_le (b : Br) : b.names ≤ 1000 * b.size := by
  induction b using Br.ind with
  | hP h ks ih => have := namesAll_le_of ih; simp only [Br.names, Br.size]; omega
theorem namesAll_le (ks : List Br) : namesAll ks ≤ 1000 * sizes ks := namesAll_le_of (fun b _ => names_le b)

set_option maxHeartbeats 1000000 in
theorem names_any (b : Br) : ∀ (w : World), b.Lies w → b.size ≤ 1000 →
    Calls Try.prog 30 #[b.h.val] w fun e w' => e = .returned (.int .i64 (b.names : Int)) ∧ Below w.heap.size w w' := by
  induction b using Br.ind with
  | hP h ks ih =>
    intro w hl hmost
    obtain ⟨hk, hm, hf, ht, np, nn, nc, ns, kp, kn, kc⟩ := h
    obtain ⟨_, hkids, hall⟩ := (lies_iff _ _).1 hl
    simp only [Br.h, Br.ks] at hkids hall
    have hkn : kn = ks.length := hkids.1
    subst hkn
    have HR : Hid ((Br.mk ⟨hk, hm, hf, ht, np, nn, nc, ns, kp, ks.length, kc⟩ ks).names = min nn 1000 + namesAll ks) := Lib.hid (by simp only [Br.names])
    have hsz : (Br.mk ⟨hk, hm, hf, ht, np, nn, nc, ns, kp, ks.length, kc⟩ ks).size = sizes ks + 1 := by simp only [Br.size]
    rw [hsz] at hmost
    have hlen := sizes_len ks
    have hb1 := brAt_new w ⟨hk, hm, hf, ht, np, nn, nc, ns, kp, ks.length, kc⟩ 25
    have hbe1 : Below w.heap.size w (w.alloc (.cells #[.int .i64 hk, .int .i64 hm, .int .i64 hf, .int .i64 ht, .slice np nn nc, .slice kp ks.length kc] 25)) := (Below.refl _ _).alloc (Nat.le_refl _) _
    have hs1 : (w.alloc (.cells #[.int .i64 hk, .int .i64 hm, .int .i64 hf, .int .i64 ht, .slice np nn nc, .slice kp ks.length kc] 25)).heap.size = w.heap.size + 1 := by simp
    have hk1 := hkids.step hbe1
    have hall1 : ∀ x ∈ ks, x.Lies _ := fun x hx => (hall x hx).step _ hbe1
    have HK := Lib.hid hk1
    have HL := Lib.hid hall1
    have HB := Lib.hid hbe1
    have HI := Lib.hid ih
    have HS := Lib.hid hs1
    have HM : Hid (∀ k, sizes (ks.take k) ≤ 1000 ∧ namesAll (ks.take k) ≤ 1000000) := Lib.hid fun k => by
      have h1 := sizes_take_le ks k
      have h2 := namesAll_le (ks.take k)
      omega
    clear hk1 hall1 hbe1 hb1 ih hkids hall hl hs1 hsz
    simp only [Br.h]
    obtain ⟨z0, hz0⟩ : ∃ z0 : Nat, z0 = min nn 1000 := ⟨_, rfl⟩
    rw [← hz0] at HR
    have hz1 : z0 ≤ 1000 := by omega
    have hmin : min (nn : Int) 1000 = (z0 : Int) := by omega
    clear hz0
    go_enter Try.func30, Try.ntmps30
    go_wp2
    generalize w.alloc (.cells #[.int .i64 hk, .int .i64 hm, .int .i64 hf, .int .i64 ht, .slice np nn nc, .slice kp ks.length kc] 25) = w1 at *
    go_loopw [3, 13] (fun n i wr => ∃ k m : Nat, k ≤ ks.length ∧ n = .int .i64 m ∧ i = .int .i64 k ∧ m = z0 + namesAll (ks.take k) ∧ Below w1.heap.size w1 wr) (fun _ i _ => ks.length - (intOf i).toNat)
    case atStart => exact ⟨0, z0, by omega, rfl, rfl, by simp [namesAll], Below.refl _ _⟩
    case round =>
      obtain ⟨k, m, hk0, rfl, rfl, hm0, hbe⟩ := hrel
      by_cases hlt : k < ks.length
      · obtain ⟨b0, off, rfl, hcap, hb0, hkat⟩ : ∃ b0 off, kp = some ⟨b0, off, none⟩ ∧ ks.length ≤ kc ∧ b0 < wr.heap.size ∧ KidsAt wr b0 off ks := by
          rcases (HK.out.step hbe).2 with h0 | h1
          · omega
          · exact h1
        obtain ⟨c0, c1, c2, c3, c4, c5⟩ := hkat k hlt
        have hxl := (HL.out ks[k] (List.getElem_mem hlt)).step _ hbe
        have hxs : ks[k].size ≤ 1000 := by have := size_le_sizes (List.getElem_mem hlt); omega
        have hnext : z0 + namesAll (ks.take (k + 1)) = m + ks[k].names := by rw [namesAll_take_succ hlt]; omega
        have HN := Lib.hid hnext
        have hmm : m ≤ 1001000 := by have := (HM.out k).2; omega
        have hz2 : ks[k].names ≤ 1000000 := by have := names_le ks[k]; omega
        have hbx := hbe.trans (((Below.refl wr.heap.size wr).alloc (Nat.le_refl _) (.cells #[.int .i64 ks[k].h.k, .int .i64 ks[k].h.m, .int .i64 ks[k].h.f, .int .i64 ks[k].h.t, .slice ks[k].h.np ks[k].h.nn ks[k].h.nc, .slice ks[k].h.kp ks[k].h.kn ks[k].h.kc] 25)).mono hbe.size)
        have hxi := HI.out ks[k] (List.getElem_mem hlt) _ (hxl.step _ ((Below.refl wr.heap.size wr).alloc (Nat.le_refl _) (.cells #[.int .i64 ks[k].h.k, .int .i64 ks[k].h.m, .int .i64 ks[k].h.f, .int .i64 ks[k].h.t, .slice ks[k].h.np ks[k].h.nn ks[k].h.nc, .slice ks[k].h.kp ks[k].h.kn ks[k].h.kc] 25))) hxs
        have HX := Lib.hid hxi
        have HBX := Lib.hid hbx
        clear hm0 hnext hxi hkat hxl hbx hxs
        generalize ks[k] = x at *
        obtain ⟨z, hz⟩ : ∃ z : Nat, z = x.names := ⟨_, rfl⟩
        rw [← hz] at HX HN hz2
        clear hz
        have hsz := hbe.size
        go_wp2_with (go_at_call 30; refine HX.out.mono ?_; rintro e w2 ⟨rfl, hb2⟩)
        go_roundw
        case rel => exact ⟨k + 1, m + z, by omega, by go_num, by go_num, HN.out.symm, HBX.out.trans (hb2.mono (by simp; omega))⟩
        case measure => simp [intOf]; omega
      · have hr : (Value.int .i64 (m : Int)) = .int .i64 ((Br.mk ⟨hk, hm, hf, ht, np, nn, nc, ns, kp, ks.length, kc⟩ ks).names : Int) := by
          rw [HR.out, hm0, List.take_of_length_le (by omega)]
        have HRR := Lib.hid hr
        have hbb := Lib.hid (HB.out.trans (hbe.mono (by have := HS.out; omega)))
        clear hr hm0
        go_wp2
        go_ret
        exact ⟨congrArg _ HRR.out, hbb.out⟩

/-- Few parts, few names. -/
def few (b : Br) : Bool := decide (b.size ≤ 150) && decide (b.names ≤ 500)
theorem few_any (b : Br) (w : World) (hl : b.Lies w) : Calls Try.prog 8 #[b.h.val] w fun e w' => e = .returned (.bool (few b)) ∧ Below w.heap.size w w' := by
  have hs := fun w1 hw => size_any b 150 w1 hw (by omega)
  have hn := names_any b
  obtain ⟨w0, e0, c0, l0, b0, s0⟩ := boxed w b hl
  have HQ : Hid (∀ w1 w2 : World, Below w1.heap.size w1 w2 → b.Lies w1 → b.Lies w2) := Lib.hid fun w1 w2 h h' => h'.step _ h
  have L0 := Lib.hid l0
  have C0 := Lib.hid c0
  have B0 := Lib.hid b0
  clear hl l0 c0 b0
  obtain ⟨z, hz⟩ : ∃ z : Nat, z = min b.size (150 + 1) := ⟨_, rfl⟩
  obtain ⟨y, hy⟩ : ∃ y : Nat, y = b.names := ⟨_, rfl⟩
  rw [← hz] at hs
  rw [← hy] at hn
  have HS := Lib.hid hs
  have HN := Lib.hid hn
  have hfew : Hid (few b = (decide (z ≤ 150) && decide (y ≤ 500))) := Lib.hid (by
    unfold few; rw [hy]; congr 1; simp only [decide_eq_decide]; omega)
  have hsm : z ≤ 150 → b.size ≤ 1000 := by omega
  have hzl : z ≤ 151 := by omega
  clear hs hn hz hy
  generalize few b = q at *
  generalize b.h = h at *
  go_enter Try.func8, Try.ntmps8
  by_cases h1 : z ≤ 150
  · have h1b := hsm h1
    go_wp2_with fail
    rw [← e0]
    refine (HS.out _ L0.out).mono ?_
    rintro e w1 ⟨rfl, hb1⟩
    obtain ⟨a0, a1, a2, a3, a4, a5⟩ := (C0.out.step (by omega) hb1).box
    have HL1 := Lib.hid (HQ.out _ _ hb1 L0.out)
    have HB1 := Lib.hid (B0.out.trans (hb1.mono (by omega)))
    have hz1 := hb1.size
    clear e0 hb1
    go_wp2_with fail
    refine (HN.out _ HL1.out h1b).mono ?_
    rintro e w2 ⟨rfl, hb2⟩
    have HB2 := Lib.hid (HB1.out.trans (hb2.mono (by omega)))
    clear hb2
    go_wp2
    go_ret
    exact ⟨ret_bool (by rw [hfew.out, decide_eq_true h1, Bool.true_and, decide_eq_decide]; omega), HB2.out⟩
  · have h3 : q = false := by rw [hfew.out]; simp [h1]
    rw [h3]
    clear h3 hfew hsm
    go_wp2_with fail
    rw [← e0]
    refine (HS.out _ L0.out).mono ?_
    rintro e w1 ⟨rfl, hb1⟩
    have HB1 := Lib.hid (B0.out.trans (hb1.mono (by omega)))
    clear e0 hb1
    go_wp2
    go_ret
    exact ⟨rfl, HB1.out⟩
end Go.Proofs.Ytcijjeflojaocaa
