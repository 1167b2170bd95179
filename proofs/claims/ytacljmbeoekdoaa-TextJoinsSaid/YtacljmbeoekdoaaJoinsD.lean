/-
  The walk of TextJoins: the first part is not there; spans.
-/
import Derived.Test.YtacljmbeoekdoaaSeen
import Derived.Lib.QuietBelow
import Derived.BigQuiet
import Derived.Deep.LoopGhost
import Derived.Deep.DeepCutAuto
namespace Go.Proofs.Ytacljmbeoekdoaa
open Go.RowKit
open Go.Sort (grow)
set_option linter.unusedVariables false
set_option maxRecDepth 100000 in
set_option maxHeartbeats 4000000 in
theorem joins_no1_spans (w : World) (s : ByteArray) (a b c : Int) (HN : Hid (¬ InText s a b)) (hs1 : s.size ≤ 1000) (b0 off cap : Nat) (x : Int × Int) (r : List (Int × Int)) (hr : r.length + 1 ≤ 100) (hcap : r.length + 1 ≤ cap) (hsp : SpansAt w b0 off (x :: r)) (hb0 : b0 < w.heap.size) :
    Calls Try.prog 4 #[.string s, .int .i64 a, .int .i64 b, .int .i64 c, .slice (some ⟨b0, off, none⟩) (r.length + 1) cap] w fun e w' => e = .returned (.bool true) ∧ Below w.heap.size w w' := by
  have hs : s.size ≤ 3000 := by omega
  obtain ⟨LO, hLO⟩ : ∃ v, lowest (x :: r) = v := ⟨_, rfl⟩
  obtain ⟨HI, hHI⟩ : ∃ v, highest (x :: r) = v := ⟨_, rfl⟩
  have HLO := Lib.hid hLO
  have HHI := Lib.hid hHI
  have HS := Lib.hid hsp
  have hne' : (((r.length : Int) + 1) == 0) = false := by rw [beq_eq_false_iff_ne]; omega
  clear hLO hHI hsp
  go_enter Try.func4, Try.ntmps4
  go_wp2_with fail
  refine (part_refused s a b hs HN.out _).mono ?_
  rintro e w1 ⟨x1, z1, rfl, hb1⟩
  go_wp2_with fail
  refine (part_some s b c hs _).mono ?_
  rintro e w2 ⟨x2, n2, l2, g2, z2, rfl, hb2⟩
  go_wp2_with fail
  refine (part_some s a c hs _).mono ?_
  rintro e w3 ⟨x3, n3, l3, g3, z3, rfl, hb3⟩
  have hb := (hb1.trans (hb2.mono hb1.size)).trans (hb3.mono (Nat.le_trans hb1.size hb2.size))
  have hne : ((2 + n2 : Int) == 0) = false := by rw [beq_eq_false_iff_ne]; omega
  have hz : w.heap.size ≤ w3.heap.size := hb.size
  have HB := Lib.hid hb
  clear hb1 hb2 hb3 hb
  go_wp2_with (first | (go_at_call 10; refine (no_any _ _).mono ?_; rintro e w' ⟨rfl, rfl⟩) | (go_at_call 11; refine (cover_as w3 b0 off cap x r LO HI HLO.out HHI.out (by omega) hcap (HS.out.on HB.out hb0) (by omega)).mono ?_; rintro e w4 ⟨rfl, hb4⟩))
  have hz4 := hb4.size
  have HB4 := Lib.hid (Below.on HB.out (by omega) hb4)
  have H5 := Lib.hid (From.start (w4.alloc (.cells #[.int .i64 LO, .int .i64 HI] 23)))
  have hn5 : (w4.alloc (.cells #[.int .i64 LO, .int .i64 HI] 23)).heap.size = w4.heap.size + 1 := by simp
  have HN5 := Lib.hid hn5
  clear hb4 hn5 hne' 
  go_loopw [19, 20, 86] (fun lw hg i wr => ∃ kk : Nat, kk ≤ r.length + 1 ∧ lw = .bool (lowSeen (x :: r) LO kk) ∧ hg = .bool (highSeen (x :: r) HI kk) ∧ i = .int .i64 kk ∧ From (w4.heap.size + 1) (w4.alloc (.cells #[.int .i64 LO, .int .i64 HI] 23)) wr) (fun _ _ i _ => r.length + 1 - (intOf i).toNat)
  case atStart => exact ⟨0, by omega, rfl, rfl, rfl, by have := H5.out; rwa [HN5.out] at this⟩
  case round =>
    obtain ⟨kk, hk, rfl, rfl, rfl, hF⟩ := hrel
    have hzr := hF.size
    by_cases hlt : kk < r.length + 1
    · have hmem : (x :: r)[kk]'(by simp; omega) ∈ x :: r := List.getElem_mem _
      have hls := lowSeen_succ (x :: r) LO kk (by simp; omega)
      have hhs := highSeen_succ (x :: r) HI kk (by simp; omega)
      have hho := holds_each x r _ hmem
      rw [HLO.out, HHI.out] at hho
      have hsp := HS.out kk (by simp; omega)
      generalize (x :: r)[kk]'(by simp; omega) = y at *
      obtain ⟨y1, y2⟩ := y
      simp only at hls hhs hho hsp
      generalize lowSeen (x :: r) LO kk = lw at *
      generalize highSeen (x :: r) HI kk = hg at *
      have hbl : Below w.heap.size w wr := (HB4.out.alloc (by omega) _).trans (hF.below.mono (by omega))
      have e0 : wr.cell? ⟨b0, off + kk * 2, none⟩ = some (.int .i64 y1) := by rw [Nat.mul_comm]; exact (hbl.cell (p := ⟨b0, off + 2 * kk, none⟩) hb0).trans hsp.1
      have e1 : wr.cell? ⟨b0, off + kk * 2 + 1, none⟩ = some (.int .i64 y2) := by rw [Nat.mul_comm]; exact (hbl.cell (p := ⟨b0, off + 2 * kk + 1, none⟩) hb0).trans hsp.2
      have hsw := meets_swap LO HI y1 y2
      have HF := Lib.hid hF
      have HLS := Lib.hid hls
      have HHS := Lib.hid hhs
      have HBL := Lib.hid hbl
      clear hmem hls hhs hsp hbl hF
      go_wp2_with fail
      have g0 : (wr.alloc (.cells #[.int .i64 y1, .int .i64 y2] 23)).cell? ⟨w4.heap.size, 0, none⟩ = some (.int .i64 LO) := (HF.out.alloc _).held (by omega) (by simp [go_sem])
      have g1 : (wr.alloc (.cells #[.int .i64 y1, .int .i64 y2] 23)).cell? ⟨w4.heap.size, 1, none⟩ = some (.int .i64 HI) := (HF.out.alloc _).held (by omega) (by simp [go_sem])
      have g2 : (wr.alloc (.cells #[.int .i64 y1, .int .i64 y2] 23)).cell? ⟨wr.heap.size, 0, none⟩ = some (.int .i64 y1) := by simp [go_sem]
      have g3 : (wr.alloc (.cells #[.int .i64 y1, .int .i64 y2] 23)).cell? ⟨wr.heap.size, 1, none⟩ = some (.int .i64 y2) := by simp [go_sem]
      have q0 := fun dn os => cell_regrown g0 dn os
      have q1 := fun dn os => cell_regrown g1 dn os
      have q2 := fun dn os => cell_regrown g2 dn os
      have q3 := fun dn os => cell_regrown g3 dn os
      have G0 := Lib.hid g0
      have G1 := Lib.hid g1
      have G2 := Lib.hid g2
      have G3 := Lib.hid g3
      clear g0 g1 g2 g3 e0 e1
      refine wp_region_quiet_below (by kernel_rfl) (by kernel_rfl) ?_
      repeat (go_big_quiet_step (first | (go_at_call 12; exact Calls.regrown_of ((holds_any _ _ _ _ _).mono fun _ _ ⟨h1, h2⟩ => ⟨h1.trans (ret_bool hho), h2⟩)) | (go_at_call 13; exact Calls.regrown_of (meets_any _ _ _ _ _))))
      refine wpQuiet_nil ?_
      intro w6 hw6
      have hb6 : Below (wr.alloc (.cells #[.int .i64 y1, .int .i64 y2] 23)).heap.size (wr.alloc (.cells #[.int .i64 y1, .int .i64 y2] 23)) w6 := by obtain ⟨p, rfl⟩ := hw6; exact below_regrown _ _ _
      have c0 := (hb6.cell (p := ⟨w4.heap.size, 0, none⟩) (by simp; omega)).trans G0.out
      have c1 := (hb6.cell (p := ⟨w4.heap.size, 1, none⟩) (by simp; omega)).trans G1.out
      have c2 := (hb6.cell (p := ⟨wr.heap.size, 0, none⟩) (by simp)).trans G2.out
      have c3 := (hb6.cell (p := ⟨wr.heap.size, 1, none⟩) (by simp)).trans G3.out
      have HF6 := Lib.hid ((HF.out.alloc _).step hb6)
      clear hw6 hb6 q0 q1 q2 q3 hho hsw
      cases lw <;> cases hg
      all_goals
        go_wp2_with fail
        go_quiet (fail)
        go_wp2
        go_roundw
        case rel => exact ⟨kk + 1, by omega, val_bool (by rw [HLS.out]; simp), val_bool (by rw [HHS.out]; simp), by go_num, HF6.out.drewN _⟩
        case measure => simp [intOf]; omega
    · have hkk : kk = r.length + 1 := by omega
      subst hkk
      have hl := HLO.out ▸ low_found x r
      have hh := HHI.out ▸ high_found x r
      have HF := Lib.hid hF
      clear hF
      go_wp2_with (go_at_call 6; refine (alive_any _).mono ?_; rintro e w5 ⟨rfl, hb5⟩)
      go_ret
      exact ⟨rfl, Below.on ((HB4.out.alloc (by omega) _).trans (HF.out.below.mono (by omega))) (by omega) hb5⟩
end Go.Proofs.Ytacljmbeoekdoaa
