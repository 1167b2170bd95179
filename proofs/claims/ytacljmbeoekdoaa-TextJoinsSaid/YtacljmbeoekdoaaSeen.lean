/-
  What the loop of TextJoins has seen: plain facts on lists of spans.
-/
import Derived.Test.YtacljmbeoekdoaaCover
import Derived.Test.YtacljmbeoekdoaaPart
namespace Go.Proofs.Ytacljmbeoekdoaa
open Go.RowKit

def lowSeen (l : List (Int × Int)) (v : Int) (k : Nat) : Bool := (l.take k).any fun y => y.1 == v
def highSeen (l : List (Int × Int)) (v : Int) (k : Nat) : Bool := (l.take k).any fun y => y.2 == v
theorem lowSeen_succ (l : List (Int × Int)) (v : Int) (k : Nat) (h : k < l.length) : lowSeen l v (k + 1) = (lowSeen l v k || (l[k].1 == v)) := by
  unfold lowSeen; rw [List.take_succ_eq_append_getElem h, List.any_append]; simp
theorem highSeen_succ (l : List (Int × Int)) (v : Int) (k : Nat) (h : k < l.length) : highSeen l v (k + 1) = (highSeen l v k || (l[k].2 == v)) := by
  unfold highSeen; rw [List.take_succ_eq_append_getElem h, List.any_append]; simp

theorem foldl_min_le (r : List (Int × Int)) (a : Int) : (r.foldl (fun m y => min m y.1) a ≤ a ∧ ∀ y ∈ r, r.foldl (fun m y => min m y.1) a ≤ y.1) ∧ (r.foldl (fun m y => min m y.1) a = a ∨ ∃ y ∈ r, y.1 = r.foldl (fun m y => min m y.1) a) := by
  induction r generalizing a with
  | nil => simp
  | cons x r ih =>
    simp only [List.foldl_cons]
    obtain ⟨⟨h1, h2⟩, h3⟩ := ih (min a x.1)
    refine ⟨⟨by omega, fun y hy => ?_⟩, ?_⟩
    · rcases List.mem_cons.1 hy with rfl | hy
      · omega
      · exact h2 y hy
    · rcases h3 with h3 | ⟨y, hy, h3⟩
      · by_cases hx : a ≤ x.1
        · left; omega
        · right; exact ⟨x, List.mem_cons_self, by omega⟩
      · right; exact ⟨y, List.mem_cons_of_mem _ hy, h3⟩
theorem foldl_max_ge (r : List (Int × Int)) (a : Int) : (a ≤ r.foldl (fun m y => max m y.2) a ∧ ∀ y ∈ r, y.2 ≤ r.foldl (fun m y => max m y.2) a) ∧ (r.foldl (fun m y => max m y.2) a = a ∨ ∃ y ∈ r, y.2 = r.foldl (fun m y => max m y.2) a) := by
  induction r generalizing a with
  | nil => simp
  | cons x r ih =>
    simp only [List.foldl_cons]
    obtain ⟨⟨h1, h2⟩, h3⟩ := ih (max a x.2)
    refine ⟨⟨by omega, fun y hy => ?_⟩, ?_⟩
    · rcases List.mem_cons.1 hy with rfl | hy
      · omega
      · exact h2 y hy
    · rcases h3 with h3 | ⟨y, hy, h3⟩
      · by_cases hx : x.2 ≤ a
        · left; omega
        · right; exact ⟨x, List.mem_cons_self, by omega⟩
      · right; exact ⟨y, List.mem_cons_of_mem _ hy, h3⟩

theorem lowest_le (x : Int × Int) (r : List (Int × Int)) (y : Int × Int) (hy : y ∈ x :: r) : lowest (x :: r) ≤ y.1 := by
  obtain ⟨⟨h1, h2⟩, _⟩ := foldl_min_le r x.1
  rcases List.mem_cons.1 hy with rfl | hy
  · exact h1
  · exact h2 y hy
theorem le_highest (x : Int × Int) (r : List (Int × Int)) (y : Int × Int) (hy : y ∈ x :: r) : y.2 ≤ highest (x :: r) := by
  obtain ⟨⟨h1, h2⟩, _⟩ := foldl_max_ge r x.2
  rcases List.mem_cons.1 hy with rfl | hy
  · exact h1
  · exact h2 y hy
theorem low_found (x : Int × Int) (r : List (Int × Int)) : lowSeen (x :: r) (lowest (x :: r)) (r.length + 1) = true := by
  unfold lowSeen
  rw [List.take_of_length_le (by simp), List.any_eq_true]
  obtain ⟨_, h | ⟨y, hy, h⟩⟩ := foldl_min_le r x.1
  · exact ⟨x, List.mem_cons_self, by simp [lowest, h]⟩
  · exact ⟨y, List.mem_cons_of_mem _ hy, by simp [lowest, h]⟩
theorem high_found (x : Int × Int) (r : List (Int × Int)) : highSeen (x :: r) (highest (x :: r)) (r.length + 1) = true := by
  unfold highSeen
  rw [List.take_of_length_le (by simp), List.any_eq_true]
  obtain ⟨_, h | ⟨y, hy, h⟩⟩ := foldl_max_ge r x.2
  · exact ⟨x, List.mem_cons_self, by simp [highest, h]⟩
  · exact ⟨y, List.mem_cons_of_mem _ hy, by simp [highest, h]⟩
theorem holds_each (x : Int × Int) (r : List (Int × Int)) (y : Int × Int) (hy : y ∈ x :: r) : holdsB (lowest (x :: r)) (highest (x :: r)) y.1 y.2 = true := by
  simp only [holdsB, lowest_le x r y hy, le_highest x r y hy, decide_true, Bool.and_self]
theorem meets_swap (a b c d : Int) : meetsB c d a b = meetsB a b c d := by
  unfold meetsB; rw [Int.max_comm, Int.min_comm]

theorem cover_empty (w : World) (a0 : Addr) (cap : Nat) :
    Calls Try.prog 11 #[.slice (some a0) 0 cap] w fun e w' => e = .returned (.tuple #[.agg #[.int .i64 0, .int .i64 0], .bool false]) ∧ Below w.heap.size w w' := by
  go_enter Try.func11, Try.ntmps11
  go_wp2
  go_returns
  exact ⟨rfl, by go_grown⟩

theorem cover_as (w : World) (b off cap : Nat) (x : Int × Int) (r : List (Int × Int)) (LO HI : Int) (hlo : lowest (x :: r) = LO) (hhi : highest (x :: r) = HI) (hm : r.length ≤ 100) (hcap : r.length + 1 ≤ cap) (hc : SpansAt w b off (x :: r)) (hb : b < w.heap.size) :
    Calls Try.prog 11 #[.slice (some ⟨b, off, none⟩) (r.length + 1) cap] w fun e w' => e = .returned (.tuple #[.agg #[.int .i64 LO, .int .i64 HI], .bool true]) ∧ Below w.heap.size w w' := by
  subst hlo hhi
  exact cover_any w b off cap x r hm hcap hc hb
theorem SpansAt.on {w w1 : World} {b off : Nat} {l : List (Int × Int)} (h : SpansAt w b off l) (hb : Below w.heap.size w w1) (hl : b < w.heap.size) : SpansAt w1 b off l :=
  fun i hi => ⟨(hb.cell (p := ⟨b, off + 2 * i, none⟩) hl).trans (h i hi).1, (hb.cell (p := ⟨b, off + 2 * i + 1, none⟩) hl).trans (h i hi).2⟩

/-- Part of whatever span: the bytes and 0, or none and 2. -/
def PartSome (w : World) (e : Ending) (w' : World) : Prop := ∃ (x : ByteArray) (n : Int), 0 ≤ n ∧ n ≤ 2 ∧ x.size ≤ 3000 ∧ e = .returned (.tuple #[.string x, .int .i64 n]) ∧ Below w.heap.size w w'
def PartNo (w : World) (e : Ending) (w' : World) : Prop := ∃ (x : ByteArray), x.size ≤ 3000 ∧ e = .returned (.tuple #[.string x, .int .i64 2]) ∧ Below w.heap.size w w'
theorem part_some (s : ByteArray) (a b : Int) (hs : s.size ≤ 3000) (w : World) :
    Calls Try.prog 7 #[.string s, .agg #[.int .i64 a, .int .i64 b]] w (PartSome w) := by
  by_cases h : InText s a b
  · have h' : 0 ≤ a ∧ a ≤ b ∧ b ≤ s.size := h
    obtain ⟨i, rfl⟩ := Int.eq_ofNat_of_zero_le (show 0 ≤ a by omega)
    obtain ⟨j, rfl⟩ := Int.eq_ofNat_of_zero_le (show 0 ≤ b by omega)
    exact (part_yes s i j hs (by omega) (by omega) w).mono fun _ _ ⟨h1, h2⟩ => ⟨_, 0, by omega, by omega, by rw [ByteArray.size_extract]; omega, h1, h2⟩
  · exact (part_no s a b hs h w).mono fun _ _ ⟨h1, h2⟩ => ⟨_, 2, by omega, by omega, by decide, h1, h2⟩
theorem part_refused (s : ByteArray) (a b : Int) (hs : s.size ≤ 3000) (h : ¬ InText s a b) (w : World) :
    Calls Try.prog 7 #[.string s, .agg #[.int .i64 a, .int .i64 b]] w (PartNo w) :=
  (part_no s a b hs h w).mono fun _ _ ⟨h1, h2⟩ => ⟨_, by decide, h1, h2⟩
theorem extract_on (s : ByteArray) (i j k : Nat) (hi : i ≤ j) (hj : j ≤ k) : s.extract i j ++ s.extract j k = s.extract i k := by
  rw [ByteArray.extract_append_extract, Nat.min_eq_left hi, Nat.max_eq_right hj]
end Go.Proofs.Ytacljmbeoekdoaa
