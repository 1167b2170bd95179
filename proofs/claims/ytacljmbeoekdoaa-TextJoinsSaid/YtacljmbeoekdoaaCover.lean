/-
  Cover: of any spans (one at least) the least beginning and the greatest end, and true; of none false. Nothing that was there before is written.
-/
import Derived.Test.YtacljmbeoekdoaaSpan
import Derived.Handy
import Derived.Lib.Hide
namespace Go.Proofs.Ytacljmbeoekdoaa
open Go.RowKit

/-- The spans of a list lie one behind the other from a place on. -/
def SpansAt (w : World) (b off : Nat) (l : List (Int × Int)) : Prop :=
  ∀ i, (h : i < l.length) → w.cell? ⟨b, off + 2 * i, none⟩ = some (.int .i64 l[i].1) ∧ w.cell? ⟨b, off + 2 * i + 1, none⟩ = some (.int .i64 l[i].2)

def lowest : List (Int × Int) → Int
  | [] => 0
  | x :: r => r.foldl (fun m y => min m y.1) x.1
def highest : List (Int × Int) → Int
  | [] => 0
  | x :: r => r.foldl (fun m y => max m y.2) x.2

theorem cover_none (w : World) :
    Calls Try.prog 11 #[.slice none 0 0] w fun e w' => e = .returned (.tuple #[.agg #[.int .i64 0, .int .i64 0], .bool false]) ∧ Below w.heap.size w w' := by
  go_enter Try.func11, Try.ntmps11
  go_wp2
  go_returns
  exact ⟨rfl, by go_grown⟩

/-- The least beginning, and the greatest end, of x and the first k of r. -/
def lowTo (x : Int × Int) (r : List (Int × Int)) (k : Nat) : Int := (r.take k).foldl (fun m y => min m y.1) x.1
def highTo (x : Int × Int) (r : List (Int × Int)) (k : Nat) : Int := (r.take k).foldl (fun m y => max m y.2) x.2
theorem lowTo_succ (x : Int × Int) (r : List (Int × Int)) (k : Nat) (h : k < r.length) : lowTo x r (k + 1) = min (lowTo x r k) r[k].1 := by
  unfold lowTo; rw [List.take_succ_eq_append_getElem h, List.foldl_append]; rfl
theorem highTo_succ (x : Int × Int) (r : List (Int × Int)) (k : Nat) (h : k < r.length) : highTo x r (k + 1) = max (highTo x r k) r[k].2 := by
  unfold highTo; rw [List.take_succ_eq_append_getElem h, List.foldl_append]; rfl
theorem lowTo_all (x : Int × Int) (r : List (Int × Int)) : lowTo x r r.length = lowest (x :: r) := by unfold lowTo lowest; rw [List.take_of_length_le (Nat.le_refl _)]
theorem highTo_all (x : Int × Int) (r : List (Int × Int)) : highTo x r r.length = highest (x :: r) := by unfold highTo highest; rw [List.take_of_length_le (Nat.le_refl _)]

theorem cover_one (w : World) (b off cap : Nat) (x : Int × Int) (hcap : 1 ≤ cap) (h0 : w.cell? ⟨b, off, none⟩ = some (.int .i64 x.1)) (h1 : w.cell? ⟨b, off + 1, none⟩ = some (.int .i64 x.2)) (hb : b < w.heap.size) :
    Calls Try.prog 11 #[.slice (some ⟨b, off, none⟩) 1 cap] w fun e w' => e = .returned (.tuple #[.agg #[.int .i64 x.1, .int .i64 x.2], .bool true]) ∧ Below w.heap.size w w' := by
  by_cases hc1 : cap = 1
  · subst hc1
    go_enter Try.func11, Try.ntmps11
    go_wp2
    refine wp_loop_rounds 1 ?_
    rw [rounds_succ]
    go_wp2
    go_returns
    exact ⟨rfl, by go_grown⟩
  · go_enter Try.func11, Try.ntmps11
    go_wp2
    refine wp_loop_rounds 1 ?_
    rw [rounds_succ]
    go_wp2
    go_returns
    exact ⟨rfl, by go_grown⟩

/-- What a round of Cover's loop begins with. -/
structure CoverAt (w wr : World) (lo hi : Int) : Prop where
  below : Below w.heap.size w wr
  size : w.heap.size + 2 ≤ wr.heap.size
  c0 : wr.cell? ⟨w.heap.size, 0, none⟩ = some (.int .i64 0)
  c1 : wr.cell? ⟨w.heap.size, 1, none⟩ = some (.int .i64 0)
  f0 : wr.frozen? ⟨w.heap.size, 0, none⟩ = false
  f1 : wr.frozen? ⟨w.heap.size, 1, none⟩ = false
  d0 : wr.cell? ⟨w.heap.size + 1, 0, none⟩ = some (.int .i64 lo)
  d1 : wr.cell? ⟨w.heap.size + 1, 1, none⟩ = some (.int .i64 hi)
  g0 : wr.frozen? ⟨w.heap.size + 1, 0, none⟩ = false
  g1 : wr.frozen? ⟨w.heap.size + 1, 1, none⟩ = false

theorem CoverAt.start (w : World) (lo hi : Int) : CoverAt w ((w.alloc (.cells #[.int .i64 0, .int .i64 0] 23)).alloc (.cells #[.int .i64 lo, .int .i64 hi] 23)) lo hi := by
  refine ⟨by go_grown, by simp, ?_, ?_, ?_, ?_, ?_, ?_, ?_, ?_⟩ <;> simp [go_sem]

set_option maxHeartbeats 400000 in
theorem cover_more (w : World) (b off cap : Nat) (x y : Int × Int) (q : List (Int × Int)) (hm : q.length ≤ 100) (hcap : q.length + 2 ≤ cap) (hc : SpansAt w b off (x :: y :: q)) (hb : b < w.heap.size) :
    Calls Try.prog 11 #[.slice (some ⟨b, off, none⟩) (q.length + 2) cap] w fun e w' => e = .returned (.tuple #[.agg #[.int .i64 (lowest (x :: y :: q)), .int .i64 (highest (x :: y :: q))], .bool true]) ∧ Below w.heap.size w w' := by
  have h0 : w.cell? ⟨b, off, none⟩ = some (.int .i64 x.1) := (hc 0 (by simp)).1
  have h1 : w.cell? ⟨b, off + 1, none⟩ = some (.int .i64 x.2) := (hc 0 (by simp)).2
  have hne : (((q.length : Int) + 2) == 0) = false := by rw [beq_eq_false_iff_ne]; omega
  have hcc : ¬ cap = 1 := by omega
  have H := Lib.hid hc
  have HA := CoverAt.start w x.1 x.2
  clear hc
  go_enter Try.func11, Try.ntmps11
  go_wp2
  go_loopw [17] (fun i wr => ∃ k : Nat, k ≤ q.length + 1 ∧ i = .int .i64 k ∧ CoverAt w wr (lowTo x (y :: q) k) (highTo x (y :: q) k)) (fun i _ => q.length + 1 - (intOf i).toNat)
  case atStart => exact ⟨0, by omega, rfl, HA⟩
  case round =>
    obtain ⟨k, hk, rfl, hr⟩ := hrel
    obtain ⟨rb, rz, c0, c1, f0, f1, d0, d1, g0, g1⟩ := hr
    have z0 : w.heap.size < wr.heap.size := by omega
    have z1 : w.heap.size + 1 < wr.heap.size := by omega
    by_cases hlt : k < q.length + 1
    · have hlen : (y :: q).length = q.length + 1 := rfl
      have e0 : wr.cell? ⟨b, off + 2 + k * 2, none⟩ = some (.int .i64 ((y :: q)[k]'(by simp; omega)).1) := by
        rw [rb.cell (p := ⟨b, off + 2 + k * 2, none⟩) hb, show off + 2 + k * 2 = off + 2 * (k + 1) from by omega]; exact (H.out (k + 1) (by simp; omega)).1
      have e1 : wr.cell? ⟨b, off + 2 + k * 2 + 1, none⟩ = some (.int .i64 ((y :: q)[k]'(by simp; omega)).2) := by
        rw [rb.cell (p := ⟨b, off + 2 + k * 2 + 1, none⟩) hb, show off + 2 + k * 2 + 1 = off + 2 * (k + 1) + 1 from by omega]; exact (H.out (k + 1) (by simp; omega)).2
      have hlo := lowTo_succ x (y :: q) k (by simp; omega)
      have hhi := highTo_succ x (y :: q) k (by simp; omega)
      generalize ((y :: q)[k]'(by simp; omega)) = z at e0 e1 hlo hhi
      have HLO := Lib.hid hlo
      have HHI := Lib.hid hhi
      clear hlo hhi hlen HA h0 h1
      go_wp2
      all_goals
        go_roundw
        case rel =>
          refine ⟨k + 1, by omega, by go_num, ?_⟩
          have hlo := HLO.out
          have hhi := HHI.out
          have n0 : ¬ w.heap.size = wr.heap.size := by omega
          have n1 : ¬ w.heap.size + 1 = wr.heap.size := by omega
          refine ⟨by go_grown, by simp; omega, ?_, ?_, ?_, ?_, ?_, ?_, ?_, ?_⟩
          all_goals (simp [go_sem, c0, c1, f0, f1, d0, d1, g0, g1, z0, z1]; try omega)
        case measure => simp [intOf]; omega
    · have hkk : k = q.length + 1 := by omega
      subst hkk
      clear H HA h0 h1
      go_wp2
      have el : lowTo x (y :: q) (q.length + 1) = lowest (x :: y :: q) := lowTo_all x (y :: q)
      have eh : highTo x (y :: q) (q.length + 1) = highest (x :: y :: q) := highTo_all x (y :: q)
      rw [el] at *
      rw [eh] at *
      have k0 : (wr.setCell ⟨w.heap.size, 0, none⟩ (.int .i64 (lowest (x :: y :: q)))).cell? ⟨w.heap.size, 0, none⟩ = some (.int .i64 (lowest (x :: y :: q))) := World.cell?_setCell_same _ _ _ c0
      have k1 : ((wr.setCell ⟨w.heap.size, 0, none⟩ (.int .i64 (lowest (x :: y :: q)))).setCell ⟨w.heap.size, 1, none⟩ (.int .i64 (highest (x :: y :: q)))).cell? ⟨w.heap.size, 1, none⟩ = some (.int .i64 (highest (x :: y :: q))) := World.cell?_setCell_same _ _ _ ((World.cell?_setCell_other _ _ _ _ (by simp)).trans c1)
      refine bodyPost_ret (v := .tuple #[.agg #[.int .i64 (lowest (x :: y :: q)), .int .i64 (highest (x :: y :: q))], .bool true]) (by simp [results, Try.results11, go_sem, k0, k1]) rfl ?_
      exact ⟨rfl, (rb.setCell (by simp) _).setCell (by simp) _⟩

theorem cover_any (w : World) (b off cap : Nat) (x : Int × Int) (r : List (Int × Int)) (hm : r.length ≤ 100) (hcap : r.length + 1 ≤ cap) (hc : SpansAt w b off (x :: r)) (hb : b < w.heap.size) :
    Calls Try.prog 11 #[.slice (some ⟨b, off, none⟩) (r.length + 1) cap] w fun e w' => e = .returned (.tuple #[.agg #[.int .i64 (lowest (x :: r)), .int .i64 (highest (x :: r))], .bool true]) ∧ Below w.heap.size w w' := by
  cases r with
  | nil => exact cover_one w b off cap x hcap (hc 0 (by simp)).1 (hc 0 (by simp)).2 hb
  | cons y q => exact cover_more w b off cap x y q (by simp at hm; omega) hcap hc hb

/-- Of two spans. -/
theorem cover_two (w : World) (n : Nat) (a b c d lo hi : Int) (hlo : min a c = lo) (hhi : max b d = hi) (h0 : w.cell? ⟨n, 0, none⟩ = some (.int .i64 a)) (h1 : w.cell? ⟨n, 1, none⟩ = some (.int .i64 b)) (h2 : w.cell? ⟨n, 2, none⟩ = some (.int .i64 c)) (h3 : w.cell? ⟨n, 3, none⟩ = some (.int .i64 d)) (hb : n < w.heap.size) :
    Calls Try.prog 11 #[.slice (some ⟨n, 0, none⟩) 2 2] w fun e w' => e = .returned (.tuple #[.agg #[.int .i64 lo, .int .i64 hi], .bool true]) ∧ Below w.heap.size w w' := by
  have h := cover_any w n 0 2 (a, b) [(c, d)] (by simp) (by simp) (fun i hi => by
    match i, hi with
    | 0, _ => exact ⟨h0, h1⟩
    | 1, _ => exact ⟨h2, h3⟩) hb
  subst hlo hhi
  exact h
end Go.Proofs.Ytacljmbeoekdoaa
