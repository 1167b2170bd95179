/-
  The walk of EditStands where nothing is left of the text.
-/
import Derived.Test.YtficgilapbmmpaaStandsH
namespace Go.Proofs.Ytficgilapbmmpaa
open Go.RowKit
set_option linter.unusedVariables false

set_option maxRecDepth 100000 in
set_option maxHeartbeats 4000000 in
theorem stands_zero (s t : ByteArray) (l : List Ed) (pl : Option Addr) (cap : Nat) (w : World) (hin : EditsIn w pl l.length cap l) (hm : l.length ≤ 60) (hs : s.size ≤ 2000) (ht : t.size ≤ 4000) (hby : bytes l ≤ 2000)
    (sum : bytes l = t.size)
    (HF : Calls Try.prog 9 #[.slice pl l.length cap] w fun e w' => e = .returned (.bool true) ∧ w = w')
    (HA : Calls Try.prog 11 #[.string s, .slice pl l.length cap] w fun e w' => e = .returned (.tuple #[.string t, .int .i64 0]) ∧ Below w.heap.size w w')
    (HK : ∀ w1, Below w.heap.size w w1 → Calls Try.prog 19 #[.int .i64 s.size, .slice pl l.length cap] w1 fun e w' => KeptPost w1 [] [] e w') :
    Calls Try.prog 6 #[.string s, .slice pl l.length cap] w fun e w' => e = .returned (.bool true) ∧ Below w.heap.size w w' := by
  have H := Lib.hid hin
  have HSUM := Lib.hid sum
  clear hin sum
  go_enter Try.func6, Try.ntmps6
  go_wp2_with fail
  refine HF.mono ?_
  rintro e w0 ⟨rfl, rfl⟩
  go_wp2_with fail
  refine HA.mono ?_
  rintro e w1 ⟨rfl, hb1⟩
  go_wp2_with fail
  refine (HK _ hb1).mono ?_
  rintro e w2 ⟨v1, v2, base, rfl, hb2, o1, o2⟩
  obtain ⟨p1, c1, rfl⟩ := none_of_row o1
  obtain ⟨p2, c2, rfl⟩ := none_of_row o2
  have hz1 := hb1.size
  have hz2 := hb2.size
  clear HF HA HK o1 o2
  go_wp2_with (go_at_call 13; refine (no_any _ _).mono ?_; rintro e w3 ⟨rfl, rfl⟩)
  refine wp_loop_rounds 1 ?_
  rw [rounds_succ]
  have rb := Below.refl w2.heap.size w2
  go_wp2_with fail
  go_loopw [14, 173] (fun pu i wr => ∃ k : Nat, k ≤ l.length ∧ i = .int .i64 k ∧ pu = .int .i64 (bytes (l.take k)) ∧ Below w2.heap.size w2 wr) (fun _ i _ => l.length - (intOf i).toNat)
  case atStart => exact ⟨0, by omega, rfl, rfl, rb⟩
  case round =>
    obtain ⟨k, hk, rfl, rfl, rk⟩ := hrel
    have rkz := rk.size
    have hbk := bytes_take_le l k
    by_cases hlk : k < l.length
    · have hall : Below w.heap.size w wr := (hb1.trans (hb2.mono hz1)).trans (rk.mono (by omega))
      obtain ⟨b, off, rfl, hcap, hb, hat⟩ : ∃ b off, pl = some ⟨b, off, none⟩ ∧ l.length ≤ cap ∧ b < w.heap.size ∧ EditsAt w b off l := by
        rcases H.out.2 with h0 | h0
        · omega
        · exact h0
      obtain ⟨e0, e1, e2⟩ := hat k hlk
      clear hat
      have g0 := (hall.cell (p := ⟨b, off + k * 3, none⟩) hb).trans e0
      have g1' := (hall.cell (p := ⟨b, off + k * 3 + 1, none⟩) hb).trans e1
      have g2' := (hall.cell (p := ⟨b, off + k * 3 + 2, none⟩) hb).trans e2
      have hbt := bytes_take l k hlk
      have hbk1 := bytes_take_le l (k + 1)
      rw [hbt] at hbk1
      have HBT := Lib.hid hbt
      clear e0 e1 e2 hbt hall
      generalize bytes (l.take k) = pb at *
      generalize l[k].a = ea at *
      generalize l[k].e = ee at *
      generalize l[k].t = et at *
      go_wp2_with fail
      go_roundw
      case rel => exact ⟨k + 1, by omega, by go_num, by rw [HBT.out]; go_num, rk.alloc rkz _⟩
      case measure => simp [intOf]; omega
    · have hkk : k = l.length := by omega
      have hbb : bytes (l.take k) = bytes l := by rw [hkk, List.take_of_length_le (Nat.le_refl _)]
      rw [hbb] at *
      have hsm : (bytes l : Int) = t.size := by have := HSUM.out; omega
      have hsm2 : ((t.size : Int) == (bytes l : Int)) = true := by rw [beq_iff_eq]; omega
      have hsm3 : (t.size == bytes l) = true := by rw [beq_iff_eq]; have := HSUM.out; omega
      clear hbb
      go_wp2_with (go_at_call 10; refine (alive_any _).mono ?_; rintro e w4 ⟨rfl, hb4⟩)
      go_ret
      exact ⟨rfl, ((hb1.trans (hb2.mono hz1)).trans (rk.mono (by omega))).trans (hb4.mono (by omega))⟩
end Go.Proofs.Ytficgilapbmmpaa
