/-
  The walk of EditKeeps: for any number, any edits and any place it returns true, and nothing that was there before is written.
-/
import Derived.Test.YtficgilapbmmpaaAlive
import Derived.Test.YtficgilapbmmpaaRefKept
import Derived.Test.YtficgilapbmmpaaPairs
namespace Go.Proofs.Ytficgilapbmmpaa
open Go.RowKit
set_option linter.unusedVariables false

theorem few_eq (p : Option Addr) (n cap : Nat) (l : List Ed) (b : Bool) (hb : fewB l = b) (w : World) (h : EditsIn w p n cap l) (hm : n ≤ 9223372036854775807) :
    Calls Try.prog 9 #[.slice p n cap] w fun e w' => e = .returned (.bool b) ∧ w = w' := by
  refine (few_any p n cap l w h hm).mono ?_
  rintro e w' ⟨rfl, rfl⟩
  exact ⟨ret_bool hb, rfl⟩

theorem editKeeps_long (n i : Int) (p : Option Addr) (m cap : Nat) (w : World) (h : 200 < n) :
    Calls Try.prog 4 #[.int .i64 n, .slice p m cap, .int .i64 i] w fun e w' => e = .returned (.bool true) ∧ Below w.heap.size w w' := by
  go_enter Try.func4, Try.ntmps4
  go_wp2_with (go_at_call 10; refine (alive_any _).mono ?_; rintro e w1 ⟨rfl, hb⟩)
  go_ret
  exact ⟨rfl, hb⟩

theorem editKeeps_many (n i : Int) (p : Option Addr) (m cap : Nat) (l : List Ed) (w : World) (hin : EditsIn w p m cap l) (hm : m ≤ 9223372036854775807) (h : n ≤ 200) (hf : fewB l = false) :
    Calls Try.prog 4 #[.int .i64 n, .slice p m cap, .int .i64 i] w fun e w' => e = .returned (.bool true) ∧ Below w.heap.size w w' := by
  have HF := few_eq p m cap l false hf w hin hm
  clear hf hin
  go_enter Try.func4, Try.ntmps4
  go_wp2_with (first | (go_at_call 9; refine HF.mono ?_; rintro e w1 ⟨rfl, rfl⟩) | (go_at_call 10; refine (alive_any _).mono ?_; rintro e w1 ⟨rfl, hb⟩))
  go_ret
  exact ⟨rfl, hb⟩

/-- Both Kepts' answers as one form: two rows that read as R, and an error. -/
def KeptBoth (w : World) (R : List Str) (c : Int) (e : Ending) (w' : World) : Prop :=
  ∃ v1 v2 base, e = .returned (.tuple #[v1, v2, .int .i64 c]) ∧ Below w.heap.size w w' ∧ w'.ownsRow base 53 2 v1 (pairsOf R).length (pairCells (pairsOf R)) ∧ w'.ownsRow base 3 1 v2 (placesOf R).length (intCells (placesOf R))

set_option maxHeartbeats 1000000 in
theorem editKeeps_main (n i : Int) (p : Option Addr) (m cap : Nat) (l : List Ed) (w : World) (R : List Str) (c : Int) (hin : EditsIn w p m cap l) (h : n ≤ 200) (hf : fewB l = true) (hR : R.length ≤ 1000)
    (HA : Calls Try.prog 19 #[.int .i64 n, .slice p m cap] w fun e w' => KeptBoth w R c e w')
    (HB : ∀ w1, EditsIn w1 p m cap l → Calls Try.prog 20 #[.int .i64 n, .slice p m cap] w1 fun e w' => KeptBoth w1 R c e w') :
    Calls Try.prog 4 #[.int .i64 n, .slice p m cap, .int .i64 i] w fun e w' => e = .returned (.bool true) ∧ Below w.heap.size w w' := by
  have hm : m ≤ 60 := by rw [hin.1]; exact (bytes_of_few hf).1
  have HF := few_eq p m cap l true hf w hin (by omega)
  have HC := fun w1 (h1 : EditsIn w1 p m cap l) => map_any n i p m cap l w1 h1 hf (by omega)
  have HD := fun w1 (h1 : EditsIn w1 p m cap l) => refMap_any n i p m cap l w1 h1 hf (by omega)
  generalize (mapN n i l).1 = x at *
  generalize (mapN n i l).2 = y at *
  have HI := Lib.hid hin
  clear hf hin
  go_enter Try.func4, Try.ntmps4
  go_wp2_with fail
  refine HF.mono ?_
  rintro e w0 ⟨rfl, rfl⟩
  go_wp2_with fail
  refine HA.mono ?_
  rintro e w1 ⟨v1, v2, base, rfl, hb1, o1, o2⟩
  have i1 := HI.out.step hb1
  go_wp2_with fail
  refine (HB _ i1).mono ?_
  rintro e w2 ⟨v3, v4, base', rfl, hb2, o3, o4⟩
  have i2 := i1.step hb2
  go_wp2_with fail
  refine (HC _ i2).mono ?_
  rintro e w3 ⟨rfl, hb3⟩
  have i3 := i2.step hb3
  go_wp2_with fail
  refine (HD _ i3).mono ?_
  rintro e w4 ⟨rfl, hb4⟩
  have hz1 := hb1.size
  have hz2 := hb2.size
  have hz3 := hb3.size
  have hz4 := hb4.size
  have b24 : Below w2.heap.size w2 w4 := hb3.trans (hb4.mono hz3)
  have b14 : Below w1.heap.size w1 w4 := hb2.trans (b24.mono hz2)
  have P1 := row_step o1 b14
  have P2 := row_step o2 b14
  have P3 := row_step o3 b24
  have P4 := row_step o4 b24
  clear o1 o2 o3 o4 i1 i2 i3 HA HB HC HD HF
  go_wp2_with fail
  refine (pairs_any R v1 v3 base base' w4 P1 P3 hR).mono ?_
  rintro e w5 ⟨rfl, hb5⟩
  have P2' := row_step P2 hb5
  have P4' := row_step P4 hb5
  have hz5 := hb5.size
  clear P1 P2 P3 P4
  go_wp2_with fail
  refine (ints_any R v2 v4 base base' w5 P2' P4' hR).mono ?_
  rintro e w6 ⟨rfl, hb6⟩
  have hz6 := hb6.size
  clear P2' P4'
  go_wp2_with (first | (go_at_call 13; refine (no_any _ _).mono ?_; rintro e w7 ⟨rfl, rfl⟩) | (go_at_call 10; refine (alive_any _).mono ?_; rintro e w8 ⟨rfl, hb8⟩))
  go_ret
  exact ⟨rfl, (((hb1.trans (b14.mono hz1)).trans (hb5.mono (by omega))).trans (hb6.mono (by omega))).trans (hb8.mono (by omega))⟩

theorem kept_both {w : World} {R : List Str} {e : Ending} {w' : World} (h : KeptPost w (pairsOf R) (placesOf R) e w') : KeptBoth w R 0 e w' := h

theorem editKeeps_walk (n : Int) (p : Option Addr) (m cap : Nat) (l : List Ed) (i : Int) (w : World) (_ : (Lit.int .i64 n).wf = true) (hm : m ≤ 9223372036854775807) (hin : EditsIn w p m cap l) (_ : (Lit.int .i64 i).wf = true) :
    Calls Try.prog 4 #[.int .i64 n, .slice p m cap, .int .i64 i] w fun e w' => e = .returned (.bool true) ∧ Below w.heap.size w w' := by
  by_cases h1 : 200 < n
  · exact editKeeps_long n i p m cap w h1
  · by_cases h2 : fewB l = true
    · obtain ⟨hl60, hby⟩ := bytes_of_few h2
      have hm60 : m ≤ 60 := by rw [hin.1]; exact hl60
      by_cases h3 : checkN n l = 0
      · obtain ⟨xs, last, hnn, hl, hg⟩ := segs_for h3
        subst hl
        have hby' := hby
        rw [bytes_edits] at hby'
        have hn200 : (orig xs ++ last).length ≤ 200 := by omega
        have htl := told_length xs (orig xs ++ last).length
        have hxl : xs.length ≤ 60 := by rw [edits_length] at hl60; exact hl60
        subst hnn
        refine editKeeps_main _ i p m cap (edits 0 xs) w (told xs (orig xs ++ last).length) 0 hin (by omega) h2 (by omega) ?_ ?_
        · have := kept_ok xs last _ rfl hg (by omega) (by unfold ins; omega) p m cap w hin hm60
          rw [told_pairs, told_places] at this
          exact this.mono fun e w' h => kept_both h
        · intro w1 h
          exact (refKept_any _ p m cap xs last rfl hg w1 h h2 (by omega)).mono fun e w' h => kept_both h
      · refine editKeeps_main n i p m cap l w [] (checkN n l) hin (by omega) h2 (by simp) ?_ ?_
        · refine (kept_bad n p m cap l w hin hm60 h3).mono ?_
          rintro e w' ⟨rfl, hb⟩
          exact ⟨_, _, 0, rfl, hb, World.ownsRow_nil _ _ _ _, World.ownsRow_nil _ _ _ _⟩
        · intro w1 h
          refine (refKept_bad n p m cap l w1 h hm60 h3).mono ?_
          rintro e w' ⟨rfl, hb⟩
          exact ⟨_, _, 0, rfl, hb, World.ownsRow_nil _ _ _ _, World.ownsRow_nil _ _ _ _⟩
    · exact editKeeps_many n i p m cap l w hin hm (by omega) (by simpa using h2)
end Go.Proofs.Ytficgilapbmmpaa
