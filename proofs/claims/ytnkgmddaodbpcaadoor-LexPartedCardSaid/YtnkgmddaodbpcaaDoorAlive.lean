/-
  The chapter's example.
-/
import Derived.Test.YtnkgmddaodbpcaaDoorCells
namespace Go.Proofs.YtnkgmddaodbpcaaDoor
open Go.RowKit
set_option linter.unusedVariables false
set_option linter.unusedSimpArgs false

theorem inB_dec (l : List ByteArray) (s : ByteArray) : inB l s = l.any fun t => t.data.toList == s.data.toList := by
  unfold inB; congr 1; funext t; rw [Lib.toList_data, Lib.toList_data]
theorem ex_k1 : kindN (bsOf [97]) = 6 := by
  unfold kindN kwB mkB; rw [inB_dec, inB_dec, beg_eq _ (by decide)]; decide
theorem ex_k2 : kindN (bsOf [46]) = 11 := by
  unfold kindN kwB mkB; rw [inB_dec, inB_dec, beg_eq _ (by decide)]; decide
theorem ex_k3 : kindN (bsOf [66]) = 7 := by
  unfold kindN kwB mkB; rw [inB_dec, inB_dec, beg_eq _ (by decide)]; decide
theorem ex_k4 : kindN (bsOf [61, 62]) = 11 := by
  unfold kindN kwB mkB; rw [inB_dec, inB_dec, beg_eq _ (by decide)]; decide
theorem ex_sec (s : ByteArray) : secB s = match s.data.toList with | _ :: d :: _ => lowB d | _ => false := by
  unfold secB; rw [Lib.toList_data]; rfl
theorem ex_k5 : kindN (bsOf [39, 99]) = 8 := by
  unfold kindN kwB mkB; rw [inB_dec, inB_dec, beg_eq _ (by decide), ex_sec]; decide
theorem ex_k6 : kindN (bsOf [120]) = 6 := by
  unfold kindN kwB mkB; rw [inB_dec, inB_dec, beg_eq _ (by decide)]; decide
theorem ex_k7 : kindN (bsOf [121]) = 6 := by
  unfold kindN kwB mkB; rw [inB_dec, inB_dec, beg_eq _ (by decide)]; decide
theorem plain_of {c : UInt8} {r : List UInt8} {q : Int} (hd : digB c = false) (hk : kindN (bsOf (c :: r)) = q) (hq : (q == 0) = false) : plainN (c :: r) = q := by
  unfold plainN
  simp only [hd, hk, hq, cond_false]
theorem ex_t1 : tokN [97, 46, 66, 61, 62, 39, 99] = (6, 1) := (by kernel_rfl : tokN [97, 46, 66, 61, 62, 39, 99] = (plainN [97], 1)).trans (by rw [plain_of (by decide) ex_k1 rfl])
theorem ex_t2 : tokN [46, 66, 61, 62, 39, 99] = (11, 1) := (by kernel_rfl : tokN [46, 66, 61, 62, 39, 99] = (plainN [46], 1)).trans (by rw [plain_of (by decide) ex_k2 rfl])
theorem ex_t3 : tokN [66, 61, 62, 39, 99] = (7, 1) := (by kernel_rfl : tokN [66, 61, 62, 39, 99] = (plainN [66], 1)).trans (by rw [plain_of (by decide) ex_k3 rfl])
theorem ex_t4 : tokN [61, 62, 39, 99] = (11, 2) := (by kernel_rfl : tokN [61, 62, 39, 99] = (plainN [61, 62], 2)).trans (by rw [plain_of (by decide) ex_k4 rfl])
theorem ex_t5 : tokN [39, 99] = (8, 2) := (by kernel_rfl : tokN [39, 99] = (plainN [39, 99], 2)).trans (by rw [plain_of (by decide) ex_k5 rfl])
theorem ex_t6 : tokN [49, 120] = (3, 2) := by kernel_rfl
theorem ex_t7 : tokN [97, 32, 40, 42, 40, 42, 42, 41] = (6, 1) := (by kernel_rfl : tokN [97, 32, 40, 42, 40, 42, 42, 41] = (plainN [97], 1)).trans (by rw [plain_of (by decide) ex_k1 rfl])
theorem ex_t8 : tokN [32, 40, 42, 40, 42, 42, 41] = (1, 1) := by kernel_rfl
theorem ex_t9 : tokN [40, 42, 40, 42, 42, 41] = (3, 6) := by kernel_rfl
theorem ex_scan : scanT ⟨#[97, 46, 66, 61, 62, 39, 99]⟩ = [⟨6, 0, 1⟩, ⟨11, 1, 2⟩, ⟨7, 2, 3⟩, ⟨11, 3, 5⟩, ⟨8, 5, 7⟩, ⟨0, 7, 7⟩] := by
  show scanF 7 0 [97, 46, 66, 61, 62, 39, 99] ++ [⟨0, 7, 7⟩] = _
  simp [scanF, ex_t1, ex_t2, ex_t3, ex_t4, ex_t5]
theorem ex_one : scanT ⟨#[49, 120]⟩ = [⟨3, 0, 2⟩, ⟨0, 2, 2⟩] := by
  show scanF 2 0 [49, 120] ++ [⟨0, 2, 2⟩] = _
  simp [scanF, ex_t6]
theorem ex_two : scanT ⟨#[97, 32, 40, 42, 40, 42, 42, 41]⟩ = [⟨6, 0, 1⟩, ⟨1, 1, 2⟩, ⟨3, 2, 8⟩, ⟨0, 8, 8⟩] := by
  show scanF 8 0 [97, 32, 40, 42, 40, 42, 42, 41] ++ [⟨0, 8, 8⟩] = _
  simp [scanF, ex_t7, ex_t8, ex_t9]
theorem ex_first1 : firstN ⟨#[49, 120]⟩ = (0, 7) := by unfold firstN; rw [ex_one]; decide
theorem ex_first2 : firstN ⟨#[97, 32, 40, 42, 40, 42, 42, 41]⟩ = (2, 8) := by unfold firstN; rw [ex_two]; decide

theorem scanF_kind (n a : Nat) (l : List UInt8) : ∀ t ∈ scanF n a l, t.k ≠ 0 := by
  induction n generalizing a l with
  | zero => intro t h; simp [scanF] at h
  | succ n ih =>
    cases l with
    | nil => intro t h; simp [scanF] at h
    | cons c r =>
      intro t h
      simp only [scanF, List.isEmpty_cons, cond_false, List.mem_cons] at h
      rcases h with rfl | h
      · exact tokN_kind (c :: r) (by simp)
      · exact ih _ _ t h
theorem first_val (s : ByteArray) : firstT s (uptoN noBad (restT s 0)) = firstN s := by
  unfold firstN scanT
  apply firstT_upto
  intro t h
  unfold restT at h
  rw [List.dropLast_concat] at h
  exact scanF_kind _ _ _ t h
theorem first_is (s : ByteArray) (hs : s.size ≤ 1000000) (w : World) (hk : Kw w) :
    Calls Tryd.prog 9 #[.string s] w fun e w' => e = .returned (.tuple #[.int .i64 (firstN s).1, .int .i64 (firstN s).2]) ∧ Below w.heap.size w w' := by
  have h := first_any s hs w hk
  rw [first_val] at h
  exact h
theorem ints_open {w : World} {base : Nat} {v : Value} {l : List Int} (h : w.ownsRow base 3 1 v l.length (l.map fun x => .int .i64 x)) (hl : 0 < l.length) : ∃ g c, v = .slice (some ⟨g, 0, none⟩) l.length c ∧ l.length ≤ c ∧ g < w.heap.size ∧ IntCells w g l := by
  rcases h.2 with ⟨_, h0⟩ | ⟨g, cap, cur, rfl, hg, hh, hc, hm, hs, ht⟩
  · omega
  · refine ⟨g, cap, rfl, hc, lt_of_block hh, fun i hi => ?_⟩
    rw [h.cellAt i (by omega)]
    simp [hi]
def exL : List Tok := [⟨6, 0, 1⟩, ⟨11, 1, 2⟩, ⟨7, 2, 3⟩, ⟨11, 3, 5⟩, ⟨8, 5, 7⟩, ⟨0, 7, 7⟩]
def exI : List Int := [6, 11, 7, 11, 8, 0]
theorem ints_new (w : World) : IntCells (w.alloc (.cells #[.int .i64 6, .int .i64 11, .int .i64 7, .int .i64 11, .int .i64 8, .int .i64 0] 3)) w.heap.size exI := by
  intro i hi
  have hi' : i < 6 := hi
  rw [World.cell?_alloc_new]
  have : i = 0 ∨ i = 1 ∨ i = 2 ∨ i = 3 ∨ i = 4 ∨ i = 5 := by omega
  rcases this with rfl | rfl | rfl | rfl | rfl | rfl <;> rfl
theorem IntCells.step {w w1 : World} {g : Nat} {l : List Int} (h : IntCells w g l) (hb : g < w.heap.size) (hw : Below w.heap.size w w1) : IntCells w1 g l := fun i hi =>
  (hw.cell (p := ⟨g, _, none⟩) hb).trans (h i hi)
set_option maxHeartbeats 2000000 in
theorem alive_any (w : World) (hk : Kw w) : Calls Tryd.prog 7 #[] w fun e w' => e = .returned (.bool true) ∧ Below w.heap.size w w' := by
  have H1 := first_is ⟨#[49, 120]⟩ (by decide) w hk
  rw [ex_first1] at H1
  have H2 := fun W hW => first_is ⟨#[97, 32, 40, 42, 40, 42, 42, 41]⟩ (by decide) W (Kw.step (w1 := W) hk hW)
  rw [ex_first2] at H2
  have H3 := fun W hW => scan_any ⟨#[97, 46, 66, 61, 62, 39, 99]⟩ (by decide) W (Kw.step (w1 := W) hk hW)
  rw [ex_scan] at H3
  clear hk
  go_enter Tryd.func7, Tryd.ntmps7
  go_wp2_with fail
  refine H1.mono ?_
  rintro e w1 ⟨rfl, b1⟩
  have B1 := Lib.hid b1
  clear b1
  go_wp2_with fail
  refine (H2 w1 B1.out).mono ?_
  rintro e w2 ⟨rfl, b2⟩
  have B2 := Lib.hid (B1.out.trans (b2.mono B1.out.size))
  clear b2
  go_wp2_with fail
  refine (H3 w2 B2.out).mono ?_
  rintro e w3 ⟨v, rfl, h3, b3⟩
  have B3 := Lib.hid (B2.out.trans (b3.mono B2.out.size))
  obtain ⟨g, c, rfl, hc, _, hg, hat⟩ := h3.open (by decide)
  have HK : Calls Tryd.prog 13 #[.slice (some ⟨g, 0, none⟩) 6 c] w3 fun e w' => ∃ v, e = .returned v ∧ w'.ownsRow w3.heap.size 3 1 v exI.length (exI.map fun x => .int .i64 x) ∧ Below w3.heap.size w3 w' := kinds_any exL g c w3 hat hg hc (by decide)
  simp only [List.length_cons, List.length_nil]
  clear b3 h3 hat hc
  go_wp2_with fail
  refine HK.mono ?_
  rintro e w4 ⟨v, rfl, h4, b4⟩
  have B4 := Lib.hid (B3.out.trans (b4.mono B3.out.size))
  obtain ⟨g', c', rfl, hc', hg', hat'⟩ := ints_open h4 (by decide)
  have HI : Calls Tryd.prog 12 #[.slice (some ⟨g', 0, none⟩) 6 c', .slice (some ⟨w4.heap.size, 0, none⟩) 6 6] (w4.alloc (.cells #[.int .i64 6, .int .i64 11, .int .i64 7, .int .i64 11, .int .i64 8, .int .i64 0] 3)) fun e w' => e = .returned (.bool true) ∧ ∃ n, w' = (w4.alloc (.cells #[.int .i64 6, .int .i64 11, .int .i64 7, .int .i64 11, .int .i64 8, .int .i64 0] 3)).drewN n :=
    ints_same exI g' w4.heap.size c' 6 _ (hat'.step hg' ((Below.refl _ _).alloc (Nat.le_refl _) _)) (ints_new w4) hc' (by decide) (by decide)
  have hn : exI.length = 6 := rfl
  simp only [hn]
  clear b4 h4 hat' hc' hn
  go_wp2_with fail
  refine HI.mono ?_
  rintro e w5 ⟨rfl, n, rfl⟩
  go_wp2_with fail
  refine (no_any 7 _).mono ?_
  rintro e w6 ⟨rfl, rfl⟩
  go_wp2_with fail
  refine (no_any 8 _).mono ?_
  rintro e w6 ⟨rfl, rfl⟩
  go_wp2_with fail
  go_ret
  exact ⟨rfl, below_drewN (B4.out.alloc B4.out.size _) _⟩
end Go.Proofs.YtnkgmddaodbpcaaDoor
