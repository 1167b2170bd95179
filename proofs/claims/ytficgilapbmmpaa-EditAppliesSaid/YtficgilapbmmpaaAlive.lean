/-
  The chapter's example: the calls at the text and the edits that are written out there.
-/
import Derived.Test.YtficgilapbmmpaaApply
import Derived.Test.YtficgilapbmmpaaBack
import Derived.Test.YtficgilapbmmpaaSame
import Derived.Test.YtficgilapbmmpaaMap
namespace Go.Proofs.Ytficgilapbmmpaa
open Go.RowKit
set_option linter.unusedVariables false

def exSegs : List Seg := [⟨[97], [98], [120, 121]⟩, ⟨[99, 100], [], [33]⟩]
def exEdits : List Ed := [⟨1, 2, ⟨#[120, 121]⟩⟩, ⟨4, 4, ⟨#[33]⟩⟩]
theorem exEdits_eq : edits 0 exSegs = exEdits := rfl
theorem exCheck : checkN 4 exEdits = 0 := by
  have : checkN ((orig exSegs ++ []).length : Nat) (edits 0 exSegs) = 0 := check_edits ⟨by simp, by simp, trivial⟩
  exact this

theorem ex_in (w : World) (b : Nat) (hb : b < w.heap.size) (h0 : w.cell? ⟨b, 0, none⟩ = some (.int .i64 1)) (h1 : w.cell? ⟨b, 1, none⟩ = some (.int .i64 2)) (h2 : w.cell? ⟨b, 2, none⟩ = some (.string ⟨#[120, 121]⟩))
    (h3 : w.cell? ⟨b, 3, none⟩ = some (.int .i64 4)) (h4 : w.cell? ⟨b, 4, none⟩ = some (.int .i64 4)) (h5 : w.cell? ⟨b, 5, none⟩ = some (.string ⟨#[33]⟩)) : EditsIn w (some ⟨b, 0, none⟩) 2 2 exEdits :=
  ⟨rfl, .inr ⟨b, 0, rfl, Nat.le_refl _, hb, fun i hi => by
    match i, hi with
    | 0, _ => exact ⟨h0, h1, h2⟩
    | 1, _ => exact ⟨h3, h4, h5⟩⟩⟩

theorem ex_at (w : World) (b : Nat) (h : EditsIn w (some ⟨b, 0, none⟩) 2 2 exEdits) : b < w.heap.size ∧ EditsAt w b 0 exEdits := by
  obtain ⟨-, h0 | ⟨b', off', hp, -, hb, hat⟩⟩ := h
  · omega
  simp only [Option.some.injEq, Addr.mk.injEq, and_true] at hp
  obtain ⟨rfl, rfl⟩ := hp
  exact ⟨hb, hat⟩
theorem ex_gap : Gap 0 exSegs := ⟨by simp, by simp, trivial⟩
theorem ex_small : ∀ i, (h : i < exSegs.length) → (made (exSegs.take i)).length + exSegs[i].k.length + exSegs[i].i.length ≤ 200000 := fun i h => by
  match i, h with
  | 0, _ => simp [exSegs, made]
  | 1, _ => simp [exSegs, made]

theorem map_two (w : World) (b : Nat) (h : EditsIn w (some ⟨b, 0, none⟩) 2 2 exEdits) :
    Calls Try.prog 21 #[.int .i64 4, .int .i64 2, .slice (some ⟨b, 0, none⟩) 2 2] w fun e w' => e = .returned (.tuple #[.int .i64 3, .bool true]) ∧ Below w.heap.size w w' :=
  map_some exSegs [] 4 2 rfl ex_gap (by omega) (by omega) (by omega) ex_small b 0 2 w (ex_at w b h).2 (ex_at w b h).1 (by decide) (by decide) (by decide)
theorem map_one (w : World) (b : Nat) (h : EditsIn w (some ⟨b, 0, none⟩) 2 2 exEdits) :
    Calls Try.prog 21 #[.int .i64 4, .int .i64 1, .slice (some ⟨b, 0, none⟩) 2 2] w fun e w' => e = .returned (.tuple #[.int .i64 0, .bool false]) ∧ Below w.heap.size w w' :=
  map_some exSegs [] 4 1 rfl ex_gap (by omega) (by omega) (by omega) ex_small b 0 2 w (ex_at w b h).2 (ex_at w b h).1 (by decide) (by decide) (by decide)

def abcd : ByteArray := ⟨#[97, 98, 99, 100]⟩
theorem ex_apply (w : World) (b : Nat) (h : EditsIn w (some ⟨b, 0, none⟩) 2 2 exEdits) :
    Calls Try.prog 11 #[.string ⟨#[97, 98, 99, 100]⟩, .slice (some ⟨b, 0, none⟩) 2 2] w fun e w' => e = .returned (.tuple #[.string ⟨#[97, 120, 121, 99, 100, 33]⟩, .int .i64 0]) ∧ Below w.heap.size w w' :=
  apply_ok exSegs [] ⟨#[97, 98, 99, 100]⟩ rfl ex_gap (by decide) (by decide) (some ⟨b, 0, none⟩) 2 2 w h (by decide)
theorem ex_back (w : World) (b : Nat) (h : EditsIn w (some ⟨b, 0, none⟩) 2 2 exEdits) :
    Calls Try.prog 25 #[.string ⟨#[97, 98, 99, 100]⟩, .slice (some ⟨b, 0, none⟩) 2 2] w fun e w' => ∃ q c, e = .returned (.tuple #[.slice q 2 c, .int .i64 0]) ∧ Below w.heap.size w w' ∧ EditsIn w' q 2 c (edits 0 (swap exSegs)) :=
  back_ok exSegs [] ⟨#[97, 98, 99, 100]⟩ rfl ex_gap (by decide) (by decide) (some ⟨b, 0, none⟩) 2 2 w h (by decide)

set_option maxHeartbeats 1000000 in
theorem alive_any (w : World) :
    Calls Try.prog 10 #[] w fun e w' => e = .returned (.bool true) ∧ Below w.heap.size w w' := by
  have hin0 := ex_in (w.alloc (.cells #[.int .i64 1, .int .i64 2, .string ⟨#[120, 121]⟩, .int .i64 4, .int .i64 4, .string ⟨#[33]⟩] 55)) w.heap.size (by simp) (by simp [go_sem]) (by simp [go_sem]) (by simp [go_sem]) (by simp [go_sem]) (by simp [go_sem]) (by simp [go_sem])
  have hb0 := (Below.refl w.heap.size w).alloc (Nat.le_refl _) (.cells #[.int .i64 1, .int .i64 2, .string ⟨#[120, 121]⟩, .int .i64 4, .int .i64 4, .string ⟨#[33]⟩] 55)
  have hz0 : w.heap.size ≤ (w.alloc (.cells #[.int .i64 1, .int .i64 2, .string ⟨#[120, 121]⟩, .int .i64 4, .int .i64 4, .string ⟨#[33]⟩] 55)).heap.size := by simp
  go_enter Try.func10, Try.ntmps10
  go_wp2_with fail
  generalize w.alloc (.cells #[.int .i64 1, .int .i64 2, .string ⟨#[120, 121]⟩, .int .i64 4, .int .i64 4, .string ⟨#[33]⟩] 55) = wa at *
  refine (ex_apply wa _ hin0).mono ?_
  rintro e w1 ⟨rfl, hb1⟩
  have hin1 := hin0.step hb1
  have hz1 := hb1.size
  go_wp2_with fail
  refine (ex_back w1 _ hin1).mono ?_
  rintro e w2 ⟨q, c, rfl, hb2, hbk⟩
  have hin2 := hin1.step hb2
  have hz2 := hb2.size
  go_wp2_with fail
  refine (map_two w2 _ hin2).mono ?_
  rintro e w3 ⟨rfl, hb3⟩
  have hin3 := hin2.step hb3
  have hbk3 := hbk.step hb3
  have hz3 := hb3.size
  go_wp2_with fail
  refine (map_one w3 _ hin3).mono ?_
  rintro e w4 ⟨rfl, hb4⟩
  have hbk4 := hbk3.step hb4
  have hz4 := hb4.size
  clear hin0 hin1 hin2 hin3 hbk hbk3
  go_wp2_with (go_at_call 13; refine (no_any _ _).mono ?_; rintro e w5 ⟨rfl, rfl⟩)
  have hbl := (Below.refl w4.heap.size w4).alloc (Nat.le_refl _) (.cells #[.int .i64 1, .int .i64 3, .string ⟨#[98]⟩, .int .i64 5, .int .i64 6, .string ⟨#[]⟩] 55)
  refine (same_any q (some ⟨w4.heap.size, 0, none⟩) 2 2 c 2 (edits 0 (swap exSegs)) [⟨1, 3, ⟨#[98]⟩⟩, ⟨5, 6, ⟨#[]⟩⟩] _ (hbk4.step hbl) ?_ (by omega)).mono ?_
  · refine ⟨rfl, .inr ⟨w4.heap.size, 0, rfl, Nat.le_refl _, by simp, fun i hi => ?_⟩⟩
    match i, hi with
    | 0, _ => simp [go_sem]
    | 1, _ => simp [go_sem]
  · rintro e w5 ⟨rfl, hb5⟩
    have hd : decide (edits 0 (swap exSegs) = [⟨1, 3, ⟨#[98]⟩⟩, ⟨5, 6, ⟨#[]⟩⟩]) = true := by decide
    rw [hd]
    go_wp2
    go_ret
    refine ⟨rfl, ?_⟩
    exact (((((hb0.trans (hb1.mono hz0)).trans (hb2.mono (by omega))).trans (hb3.mono (by omega))).trans (hb4.mono (by omega))).trans (hbl.mono (by omega))).trans (hb5.mono (by simp; omega))
end Go.Proofs.Ytficgilapbmmpaa
