/-
  Apply: of edits that are right, what is kept and what is put in, in order; else the error.
-/
import Derived.Test.YtficgilapbmmpaaSegs
import Derived.Test.YtficgilapbmmpaaBuild
import Derived.Lib.IndexBytes
namespace Go.Proofs.Ytficgilapbmmpaa
open Go.RowKit
set_option linter.unusedVariables false

/-- The builder's block and its bytes, and what lies below. -/
structure Building (w wr : World) (l : List UInt8) : Prop where
  at_ : Lib.IsBuilderF 61 5 w.heap.size w.heap.size (Lib.byteCells l) wr
  below : Below w.heap.size w wr

theorem Building.start (w : World) : Building w (w.alloc (.cells #[.pointer none, .slice none 0 0] 61)) [] :=
  ⟨Lib.IsBuilderF.of (Lib.fresh_isBuilder 61 5 w), (Below.refl _ _).alloc (Nat.le_refl _) _⟩

theorem strs (l : List UInt8) (s : ByteArray) : Lib.byteCells l ++ Lib.strCells s = Lib.byteCells (l ++ s.data.toList) := by
  rw [Lib.byteCells_append, Lib.strCells_eq]

theorem block_new (w : World) (o : Obj) : (w.alloc o).heap[w.heap.size]? = some o := heap_alloc_new w o

theorem others_block {b : Nat} {w w1 : World} (h : Lib.OthersKept 5 (some b) w w1) (k : Nat) (cs : Array Value) (hk : w.heap[k]? = some (.cells cs 55 (0, 0))) (hkb : k ≠ b) : w1.heap[k]? = some (.cells cs 55 (0, 0)) :=
  h k _ hk (fun e => hkb (Option.some.inj e)) (fun _ _ e => by cases e)

theorem apply_bad (s : ByteArray) (p : Option Addr) (n cap : Nat) (l : List Ed) (w : World) (h : EditsIn w p n cap l) (hm : n ≤ 60) (hs : s.size ≤ 100000) (hbad : checkN s.size l ≠ 0) :
    Calls Try.prog 11 #[.string s, .slice p n cap] w fun e w' => e = .returned (.tuple #[.string ⟨#[]⟩, .int .i64 (checkN s.size l)]) ∧ Below w.heap.size w w' := by
  have hne : (checkN s.size l == 0) = false := by rw [beq_eq_false_iff_ne]; exact hbad
  have hne2 : (checkN s.size l != 0) = true := by rw [bne, hne]; rfl
  go_enter Try.func11, Try.ntmps11
  go_wp2_with (go_at_call 14; refine (check_any _ p n cap l _ h hm).mono ?_; rintro e w1 ⟨rfl, hb⟩)
  go_returns
  exact ⟨rfl, hb⟩

set_option maxHeartbeats 1000000 in
theorem apply_some (xs : List Seg) (last : List UInt8) (s : ByteArray) (hs : s.data.toList = orig xs ++ last) (hgap : Gap 0 xs) (hsz : s.size ≤ 100000) (hby : (made xs).length ≤ 200000) (hby2 : ∀ i, (h : i < xs.length) → (made (xs.take i)).length + xs[i].k.length + xs[i].i.length ≤ 200000)
    (b off cap : Nat) (w : World) (hat : EditsAt w b off (edits 0 xs)) (hb : b < w.heap.size) (hcap : xs.length ≤ cap) (hm : xs.length ≤ 60) (hl : 0 < xs.length) :
    Calls Try.prog 11 #[.string s, .slice (some ⟨b, off, none⟩) xs.length cap] w fun e w' => e = .returned (.tuple #[.string ⟨(made xs ++ last).toArray⟩, .int .i64 0]) ∧ Below w.heap.size w w' := by
  have hlen : s.size = (orig xs ++ last).length := by rw [← hs, Array.length_toList]; rfl
  have hck : checkN (s.size : Int) (edits 0 xs) = 0 := by rw [hlen]; exact check_edits hgap
  have hin : EditsIn w (some ⟨b, off, none⟩) xs.length cap (edits 0 xs) := ⟨(edits_length xs 0).symm, .inr ⟨b, off, rfl, hcap, hb, hat⟩⟩
  have H := Lib.hid hat
  have HS := Lib.hid hs
  have HY := Lib.hid hby2
  have HL := Lib.hid hlen
  have HC : Calls Try.prog 14 #[.int .i64 s.size, .slice (some ⟨b, off, none⟩) xs.length cap] w fun e w' => e = .returned (.int .i64 0) ∧ Below w.heap.size w w' := by
    refine (check_any (s.size : Int) (some ⟨b, off, none⟩) xs.length cap (edits 0 xs) w hin hm).mono ?_
    rintro e w' ⟨rfl, hb⟩
    exact ⟨ret_int hck, hb⟩
  clear hat hs hby2 hlen hck hin
  go_enter Try.func11, Try.ntmps11
  go_wp2_with (go_at_call 14; refine HC.mono ?_; rintro e w1 ⟨rfl, hb1⟩)
  clear HC
  have HB := Building.start w1
  go_loopw [8, 20] (fun a i wr => ∃ k : Nat, k ≤ xs.length ∧ i = .int .i64 k ∧ a = .int .i64 (orig (xs.take k)).length ∧ Building w1 wr (made (xs.take k))) (fun _ i _ => xs.length - (intOf i).toNat)
  case atStart => exact ⟨0, by omega, rfl, rfl, HB⟩
  case round =>
    obtain ⟨k, hk, rfl, rfl, hbu⟩ := hrel
    obtain ⟨hbu, hbe⟩ := hbu
    have hz1 := hb1.size
    have hz2 := hbe.size
    have hz4 : w1.heap.size < wr.heap.size := hbu.elim (fun h => h.lt) (fun h => h.lt)
    clear HB
    by_cases hlt : k < xs.length
    · have hcells := H.out k (by rw [edits_length]; exact hlt)
      rw [edits_at xs 0 k hlt] at hcells
      obtain ⟨e0, e1, e2⟩ := hcells
      have g0 := (hbe.cell (p := ⟨b, off + k * 3, none⟩) (Nat.lt_of_lt_of_le hb hz1)).trans ((hb1.cell (p := ⟨b, off + k * 3, none⟩) hb).trans e0)
      have g1 := (hbe.cell (p := ⟨b, off + k * 3 + 1, none⟩) (Nat.lt_of_lt_of_le hb hz1)).trans ((hb1.cell (p := ⟨b, off + k * 3 + 1, none⟩) hb).trans e1)
      have g2 := (hbe.cell (p := ⟨b, off + k * 3 + 2, none⟩) (Nat.lt_of_lt_of_le hb hz1)).trans ((hb1.cell (p := ⟨b, off + k * 3 + 2, none⟩) hb).trans e2)
      clear e0 e1 e2
      have hbyk := HY.out k hlt
      have hso : s.data.toList = orig (xs.take k) ++ (xs[k].k ++ (xs[k].d ++ orig (xs.drop (k + 1)))) ++ last := by rw [HS.out, ← orig_split xs k hlt]
      have hos : (orig (xs.take (k + 1))).length = 0 + (orig (xs.take k)).length + xs[k].k.length + xs[k].d.length := by rw [orig_take_succ xs k hlt]; simp; omega
      have hle : 0 + (orig (xs.take k)).length + xs[k].k.length + xs[k].d.length ≤ s.size := by
        rw [HL.out, orig_split xs k hlt]; simp; omega
      have hex : (s.extract (orig (xs.take k)).length (0 + (orig (xs.take k)).length + xs[k].k.length)).data.toList = xs[k].k := by
        rw [Lib.extract_data, hso, List.append_assoc, List.drop_left, List.append_assoc, show 0 + (orig (xs.take k)).length + xs[k].k.length - (orig (xs.take k)).length = xs[k].k.length from by omega, List.take_left]
      have hms := made_take_succ xs k hlt
      have hl1 : (Lib.byteCells (made (xs.take k))).length + (s.extract (orig (xs.take k)).length (0 + (orig (xs.take k)).length + xs[k].k.length)).size ≤ 140737488355328 := by
        rw [Lib.byteCells_length, ByteArray.size_extract]; omega
      have hl2 : (Lib.byteCells (made (xs.take k)) ++ Lib.strCells (s.extract (orig (xs.take k)).length (0 + (orig (xs.take k)).length + xs[k].k.length))).length + (⟨xs[k].i.toArray⟩ : ByteArray).size ≤ 140737488355328 := by
        rw [List.length_append, Lib.byteCells_length, Lib.strCells_length, ByteArray.size_extract]
        show _ + xs[k].i.toArray.size ≤ _
        rw [List.size_toArray]; omega
      have hmk : Lib.byteCells (made (xs.take k)) ++ Lib.strCells (s.extract (orig (xs.take k)).length (0 + (orig (xs.take k)).length + xs[k].k.length)) ++ Lib.strCells ⟨xs[k].i.toArray⟩ = Lib.byteCells (made (xs.take (k + 1))) := by
        rw [strs, strs, hex, hms]; simp
      have HMK := Lib.hid hmk
      have HOS := Lib.hid hos
      clear hmk hos hms hso hex hbyk
      generalize hA : (orig (xs.take k)).length = A at *
      generalize hP : 0 + A + xs[k].k.length = P at *
      generalize hE : P + xs[k].d.length = E at *
      have hAP : A ≤ P := by omega
      have hPE : P ≤ E := by omega
      generalize (⟨xs[k].i.toArray⟩ : ByteArray) = t at *
      clear hA hP hE
      have hPs : P ≤ s.size := by omega
      go_wp2_with fail
      refine (writes w1.heap.size w1.heap.size _ (s.extract A P) _ (hbu.alloc _) hl1 (by simp; omega)).mono ?_
      rintro e w2 ⟨rfl, hbu2, hbe2, hk2⟩
      have hblk := others_block hk2 wr.heap.size #[.int .i64 P, .int .i64 E, .string t] (block_new _ _) (by omega)
      have c2 : w2.cell? ⟨wr.heap.size, 2, none⟩ = some (.string t) := by rw [Lib.cell_of_heap hblk]; rfl
      have hz3 := hbe2.size
      simp at hz3
      go_wp2_with fail
      refine (writes w1.heap.size w1.heap.size _ t _ (.inr hbu2) hl2 (by omega)).mono ?_
      rintro e w3 ⟨rfl, hbu3, hbe3, hk3⟩
      have hblk3 := others_block hk3 wr.heap.size #[.int .i64 P, .int .i64 E, .string t] hblk (by omega)
      have c3 : w3.cell? ⟨wr.heap.size, 1, none⟩ = some (.int .i64 E) := by rw [Lib.cell_of_heap hblk3]; rfl
      clear hblk
      rw [HMK.out] at hbu3
      go_wp2
      go_roundw
      case rel =>
        refine ⟨k + 1, by omega, by go_num, by rw [HOS.out], .inr hbu3, ?_⟩
        exact ((hbe.alloc hbe.size _).trans hbe2).trans hbe3
      case measure => simp [intOf]; omega
    · have hkk : k = xs.length := by omega
      have hle : (orig (xs.take k)).length ≤ s.size := by rw [hkk, List.take_of_length_le (Nat.le_refl _), HL.out]; simp
      have hex : (s.extract (orig (xs.take k)).length s.size).data.toList = last := by
        rw [Lib.extract_to_end, HS.out, hkk, List.take_of_length_le (Nat.le_refl _), List.drop_left]
      have hl1 : (Lib.byteCells (made (xs.take k))).length + (s.extract (orig (xs.take k)).length s.size).size ≤ 140737488355328 := by
        rw [Lib.byteCells_length, ByteArray.size_extract, hkk, List.take_of_length_le (Nat.le_refl _)]; omega
      have hmk : Lib.byteCells (made (xs.take k)) ++ Lib.strCells (s.extract (orig (xs.take k)).length s.size) = Lib.byteCells (made xs ++ last) := by
        rw [strs, hex, hkk, List.take_of_length_le (Nat.le_refl _)]
      have HMK := Lib.hid hmk
      clear hmk hex
      generalize (orig (xs.take k)).length = A at *
      go_wp2_with fail
      refine (writes w1.heap.size w1.heap.size _ (s.extract A s.size) _ hbu hl1 (by omega)).mono ?_
      rintro e w2 ⟨rfl, hbu2, hbe2, hk2⟩
      have hz3 := hbe2.size
      rw [HMK.out] at hbu2
      go_wp2_with fail
      refine (Try.Builder_String_any_f w1.heap.size w1.heap.size _ _ (.inr hbu2) (by omega)).mono ?_
      rintro e w3 ⟨rfl, _, hbe3⟩
      go_wp2
      go_returns
      exact ⟨rfl, hb1.trans (((hbe.trans hbe2).trans hbe3).mono hz1)⟩

theorem apply_nil (s : ByteArray) (p : Option Addr) (cap : Nat) (w : World) (hsz : s.size ≤ 100000) :
    Calls Try.prog 11 #[.string s, .slice p 0 cap] w fun e w' => e = .returned (.tuple #[.string s, .int .i64 0]) ∧ Below w.heap.size w w' := by
  have hck : checkN (s.size : Int) [] = 0 := checkN_ok (by omega) (fun i hi => absurd hi (by simp)) (fun i hi => absurd hi (by simp))
  have HC : Calls Try.prog 14 #[.int .i64 s.size, .slice p 0 cap] w fun e w' => e = .returned (.int .i64 0) ∧ Below w.heap.size w w' := by
    refine (check_any (s.size : Int) p 0 cap [] w ⟨rfl, .inl rfl⟩ (by omega)).mono ?_
    rintro e w' ⟨rfl, hb⟩
    exact ⟨ret_int hck, hb⟩
  clear hck
  have hex : Lib.byteCells [] ++ Lib.strCells s = Lib.byteCells s.data.toList := by
    rw [strs]; rfl
  have HX := Lib.hid hex
  clear hex
  go_enter Try.func11, Try.ntmps11
  go_wp2_with (go_at_call 14; refine HC.mono ?_; rintro e w1 ⟨rfl, hb1⟩)
  have HB := Building.start w1
  refine wp_loop_rounds 1 ?_
  rw [rounds_succ]
  obtain ⟨hbu, hbe⟩ := HB
  have hz1 := hb1.size
  have hz2 := hbe.size
  generalize hW : w1.alloc (.cells #[.pointer none, .slice none 0 0] 61) = wr at *
  clear hW
  go_wp2_with fail
  refine (writes w1.heap.size w1.heap.size (Lib.byteCells []) s _ hbu (by simp [Lib.byteCells]; omega) (by omega)).mono ?_
  rintro e w2 ⟨rfl, hbu2, hbe2, hk2⟩
  have hz3 := hbe2.size
  rw [HX.out] at hbu2
  go_wp2_with fail
  refine (Try.Builder_String_any_f w1.heap.size w1.heap.size _ _ (.inr hbu2) (by omega)).mono ?_
  rintro e w3 ⟨rfl, _, hbe3⟩
  go_wp2
  go_returns
  exact ⟨rfl, hb1.trans (((hbe.trans hbe2).trans hbe3).mono hz1)⟩

theorem apply_ok (xs : List Seg) (last : List UInt8) (s : ByteArray) (hs : s.data.toList = orig xs ++ last) (hgap : Gap 0 xs) (hsz : s.size ≤ 100000) (hi : ins xs ≤ 100000)
    (p : Option Addr) (n cap : Nat) (w : World) (h : EditsIn w p n cap (edits 0 xs)) (hm : n ≤ 60) :
    Calls Try.prog 11 #[.string s, .slice p n cap] w fun e w' => e = .returned (.tuple #[.string ⟨(made xs ++ last).toArray⟩, .int .i64 0]) ∧ Below w.heap.size w w' := by
  obtain ⟨hn, hr⟩ := h
  rw [edits_length] at hn
  have ho : (orig xs).length ≤ s.size := by
    have : s.data.toList.length = s.size := by rw [Array.length_toList]; rfl
    rw [hs] at this; simp at this; omega
  by_cases h0 : xs.length = 0
  · have : xs = [] := List.length_eq_zero_iff.1 h0
    subst this
    subst hn
    have e : (⟨(made [] ++ last).toArray⟩ : ByteArray) = s := by
      have : last = s.data.toList := by rw [hs]; rfl
      rw [this]; simp [made]
    rw [e]
    exact apply_nil s p cap w hsz
  · rcases hr with h0' | ⟨b, off, rfl, hc, hb, hat⟩
    · omega
    · subst hn
      have hml := made_length xs
      exact apply_some xs last s hs hgap hsz (by unfold ins at hi; omega) (fun i h => by have := ins_take xs i h; omega) b off cap w hat hb hc hm (by omega)
end Go.Proofs.Ytficgilapbmmpaa
