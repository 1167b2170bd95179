/-
  Find, whole.
-/
import Derived.Test.YtpgmlagkpigdjaaFnd
namespace Go.Proofs.Ytpgmlagkpigdjaa
open Go.RowKit
set_option maxRecDepth 20000
set_option linter.unusedVariables false
set_option linter.unusedSimpArgs false

theorem frozenH {w : World} {b : Nat} {cs : Array Value} {T : TypeId} (hb : w.heap[b]? = some (.cells cs T (0, 0))) (j : Nat) : w.frozen? ⟨b, j, none⟩ = false := by
  simp [World.frozen?, hb]
/-- An item as a value. -/
def itO : Option Bd → Value
  | none => .agg #[.int .i64 0, .int .i64 0, .pointer none, .pointer none]
  | some b => .agg #[.int .i64 b.bi.dc, .int .i64 b.bi.via, .pointer b.bi.pa, .pointer b.bi.pm]
def FindPost (w : World) (o : Option Bd) (e : Ending) (w' : World) : Prop := e = .returned (.tuple #[itO o, .bool o.isSome]) ∧ Below w.heap.size w w'
set_option maxHeartbeats 4000000 in
theorem find_any (w : World) (p : Option Addr) (l : List Bd) (k : Ky) (h : EnvAt w p l) :
    Calls Try.prog 11 #[.pointer p, .agg #[.int .i64 k.1, .string k.2]] w (FindPost w (look l k)) := by
  rcases h with ⟨rfl, rfl⟩ | ⟨g, t, rfl, hl, hr⟩
  · have hE : Hid (look [] k = none) := Lib.hid rfl
    go_enter Try.func11, Try.ntmps11
    go_wp2_with fail
    try simp only [Exit.inBlock, Exit.then]
    refine bodyPost_ret (by simp [results, Try.results11, go_sem, Result.andThen]; try rfl) rfl ?_
    exact ⟨by rw [hE.out]; rfl, ((((Below.refl _ _).alloc (Nat.le_refl _) _).alloc (by simp) _))⟩
  · obtain ⟨wa, hwa⟩ : ∃ wa, wa = (w.alloc (.cells #[.int .i64 k.1, .string k.2] 31)).alloc (.cells #[.int .i64 0, .int .i64 0, .pointer none, .pointer none] 33) := ⟨_, rfl⟩
    have hba : Below w.heap.size w wa := by rw [hwa]; exact ((Below.refl _ _).alloc (Nat.le_refl _) _).alloc (by simp) _
    have hka : wa.heap[w.heap.size]? = some (.cells #[.int .i64 k.1, .string k.2] 31 (0, 0)) := by
      rw [hwa]; exact heap_step (heap_new _ _) ((Below.refl _ _).alloc (Nat.le_refl _) _)
    have hra : wa.heap[w.heap.size + 1]? = some (.cells #[.int .i64 0, .int .i64 0, .pointer none, .pointer none] 33 (0, 0)) := by
      rw [hwa, show w.heap.size + 1 = (w.alloc (.cells #[.int .i64 k.1, .string k.2] 31)).heap.size by simp]; exact heap_new _ _
    have hra' := hr.step hba
    have c1 := hr.c1
    have HF := Lib.hid (find22_any t k w.heap.size wa hra'.tr hra'.srt ((cellH hka 0).trans rfl) ((cellH hka 1).trans rfl) (heap_lt hka))
    rw [hr.look k] at HF
    have HLK : Hid (∀ b, look l k = some b → ∃ q, LkC w b q) := Lib.hid fun b hb => hr.lk.mem b (look_some hb).1
    have hg : g < w.heap.size := hr.lt
    have hsz : wa.heap.size = w.heap.size + 2 := by rw [hwa]; simp
    simp only [at0]
    clear hr hra' hl hka
    have HWA := Lib.hid hwa
    have HBA := Lib.hid hba
    have HRA := Lib.hid hra
    have HSZ := Lib.hid hsz
    have HF2 : Hid (∀ W, W = wa → Calls Try.prog 22 #[.pointer t.ptr, .func (.func 23) #[] #[.pointer (some ⟨w.heap.size, 0, none⟩)]] W fun e w' => e = .returned (.pointer (lkp (look l k))) ∧ Below wa.heap.size wa w') := Lib.hid fun W hW => by rw [hW]; exact HF.out
    clear hwa hba hra hsz HF
    cases hlk : look l k with
    | none =>
      rw [hlk] at HF2
      simp only [lkp] at HF2
      go_enter Try.func11, Try.ntmps11
      go_wp2_with (go_at_call 22; refine (HF2.out _ HWA.out.symm).mono ?_; rintro e w1 ⟨rfl, hb1⟩; have HB1 := Lib.hid hb1; have hra1 := heap_step HRA.out hb1; have q0 := (cellH hra1 0).trans rfl; have q1 := (cellH hra1 1).trans rfl; have q2 := (cellH hra1 2).trans rfl; have q3 := (cellH hra1 3).trans rfl; have f0 := frozenH hra1 0; have f1 := frozenH hra1 1; have f2 := frozenH hra1 2; have f3 := frozenH hra1 3; clear hb1 hra1)
      try simp only [Exit.inBlock, Exit.then]
      refine bodyPost_ret (by simp [results, Try.results11, go_sem, q0, q1, q2, q3, Result.andThen]; try rfl) rfl ?_
      refine ⟨rfl, ?_⟩
      exact ((((HBA.out.trans (HB1.out.mono HBA.out.size)).setCell (p := ⟨w.heap.size + 1, 0, none⟩) (by simp) _).setCell (p := ⟨w.heap.size + 1, 1, none⟩) (by simp) _).setCell (p := ⟨w.heap.size + 1, 2, none⟩) (by simp) _).setCell (p := ⟨w.heap.size + 1, 3, none⟩) (by simp) _
    | some b =>
      obtain ⟨pb, hb⟩ := HLK.out b hlk
      rw [hlk] at HF2
      simp only [lkp, at0] at HF2
      have HLB : Hid (∀ W, Below wa.heap.size wa W → W.cell? ⟨b.lk, 2, none⟩ = some (.int .i64 b.bi.dc) ∧ W.cell? ⟨b.lk, 3, none⟩ = some (.int .i64 b.bi.via) ∧ W.cell? ⟨b.lk, 4, none⟩ = some (.pointer b.bi.pa) ∧ W.cell? ⟨b.lk, 5, none⟩ = some (.pointer b.bi.pm)) := Lib.hid fun W hW => by
        have := (hb.step (HBA.out.trans (hW.mono HBA.out.size))).out
        exact ⟨this.c2, this.c3, this.c4, this.c5⟩
      have hbl : b.lk < w.heap.size := heap_lt hb
      clear hb hlk
      go_enter Try.func11, Try.ntmps11
      go_wp2_with (go_at_call 22; refine (HF2.out _ HWA.out.symm).mono ?_; rintro e w1 ⟨rfl, hb1⟩; have HB1 := Lib.hid hb1; have hra1 := heap_step HRA.out hb1; have q0 := (cellH hra1 0).trans rfl; have q1 := (cellH hra1 1).trans rfl; have q2 := (cellH hra1 2).trans rfl; have q3 := (cellH hra1 3).trans rfl; have f0 := frozenH hra1 0; have f1 := frozenH hra1 1; have f2 := frozenH hra1 2; have f3 := frozenH hra1 3; obtain ⟨l2, l3, l4, l5⟩ := HLB.out w1 hb1; clear hb1 hra1)
      try simp only [Exit.inBlock, Exit.then]
      refine bodyPost_ret (by simp [results, Try.results11, go_sem, q0, q1, q2, q3, Result.andThen]; try rfl) rfl ?_
      refine ⟨rfl, ?_⟩
      exact ((((HBA.out.trans (HB1.out.mono HBA.out.size)).setCell (p := ⟨w.heap.size + 1, 0, none⟩) (by simp) _).setCell (p := ⟨w.heap.size + 1, 1, none⟩) (by simp) _).setCell (p := ⟨w.heap.size + 1, 2, none⟩) (by simp) _).setCell (p := ⟨w.heap.size + 1, 3, none⟩) (by simp) _
end Go.Proofs.Ytpgmlagkpigdjaa
