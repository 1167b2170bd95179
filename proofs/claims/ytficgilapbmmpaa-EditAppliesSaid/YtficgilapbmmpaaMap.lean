/-
  Map: where a byte is in the text that edits make.
-/
import Derived.Test.YtficgilapbmmpaaSegs
import Derived.Test.YtficgilapbmmpaaPart
import Derived.Lib.Builder
namespace Go.Proofs.Ytficgilapbmmpaa
open Go.RowKit
set_option linter.unusedVariables false

/-- Where a byte is, from a shift on. -/
def mapL : List Ed → Int → Int → Int × Bool
  | [], sh, i => (i + sh, true)
  | x :: r, sh, i => if i < x.a then (i + sh, true) else if i < x.e then (0, false) else mapL r (sh + (x.t.size - (x.e - x.a))) i

theorem mapL_here {x : Ed} {r : List Ed} {sh i : Int} (h : i < x.a) : mapL (x :: r) sh i = (i + sh, true) := by simp [mapL, h]
theorem mapL_taken {x : Ed} {r : List Ed} {sh i : Int} (h : ¬ i < x.a) (h2 : i < x.e) : mapL (x :: r) sh i = (0, false) := by simp [mapL, h, h2]
theorem mapL_on {x : Ed} {r : List Ed} {sh i : Int} (h : ¬ i < x.a) (h2 : ¬ i < x.e) : mapL (x :: r) sh i = mapL r (sh + (x.t.size - (x.e - x.a))) i := by simp [mapL, h, h2]

theorem ret_pair {p : Int × Bool} {a : Int} {b : Bool} (h : p = (a, b)) : Ending.returned (.tuple #[.int .i64 a, .bool b]) = .returned (.tuple #[.int .i64 p.1, .bool p.2]) := by rw [h]

theorem block_one (w : World) (o : Obj) : (w.alloc o).heap[w.heap.size]? = some o := heap_alloc_new w o

set_option maxHeartbeats 2000000 in
theorem map_some (xs : List Seg) (last : List UInt8) (n : Nat) (at_ : Int) (hn : n = (orig xs ++ last).length) (hgap : Gap 0 xs) (hsz : n ≤ 100000) (h0 : 0 ≤ at_) (h1 : at_ < n) (hby2 : ∀ i, (h : i < xs.length) → (made (xs.take i)).length + xs[i].k.length + xs[i].i.length ≤ 200000)
    (b off cap : Nat) (w : World) (hat : EditsAt w b off (edits 0 xs)) (hb : b < w.heap.size) (hcap : xs.length ≤ cap) (hm : xs.length ≤ 60) (hl : 0 < xs.length) :
    Calls Try.prog 21 #[.int .i64 n, .int .i64 at_, .slice (some ⟨b, off, none⟩) xs.length cap] w fun e w' => e = .returned (.tuple #[.int .i64 (mapL (edits 0 xs) 0 at_).1, .bool (mapL (edits 0 xs) 0 at_).2]) ∧ Below w.heap.size w w' := by
  have hck : checkN (n : Int) (edits 0 xs) = 0 := by rw [hn]; exact check_edits hgap
  have hin : EditsIn w (some ⟨b, off, none⟩) xs.length cap (edits 0 xs) := ⟨(edits_length xs 0).symm, .inr ⟨b, off, rfl, hcap, hb, hat⟩⟩
  have hml : (made xs).length ≤ 300000 := by
    have h2 := hby2 (xs.length - 1) (by omega)
    have h3 := made_take_succ xs (xs.length - 1) (by omega)
    rw [show xs.length - 1 + 1 = xs.length from by omega, List.take_of_length_le (Nat.le_refl _)] at h3
    rw [h3]; simp; omega
  have H := Lib.hid hat
  have HY := Lib.hid hby2
  have HL := Lib.hid hn
  have HC : Calls Try.prog 14 #[.int .i64 n, .slice (some ⟨b, off, none⟩) xs.length cap] w fun e w' => e = .returned (.int .i64 0) ∧ Below w.heap.size w w' := by
    refine (check_any (n : Int) (some ⟨b, off, none⟩) xs.length cap (edits 0 xs) w hin hm).mono ?_
    rintro e w' ⟨rfl, hb⟩
    exact ⟨ret_int hck, hb⟩
  clear hat hby2 hck hin hn
  go_enter Try.func21, Try.ntmps21
  go_wp2_with (go_at_call 14; refine HC.mono ?_; rintro e w1 ⟨rfl, hb1⟩)
  clear HC
  go_loopw [8, 26] (fun a i wr => ∃ k : Nat, k ≤ xs.length ∧ i = .int .i64 k ∧ a = .int .i64 ((made (xs.take k)).length - (orig (xs.take k)).length) ∧ Below w1.heap.size w1 wr ∧ mapL (edits 0 xs) 0 at_ = mapL ((edits 0 xs).drop k) ((made (xs.take k)).length - (orig (xs.take k)).length) at_) (fun _ i _ => xs.length - (intOf i).toNat)
  case atStart => exact ⟨0, by omega, rfl, rfl, Below.refl _ _, rfl⟩
  case round =>
    obtain ⟨k, hk, rfl, rfl, hbe, hmp⟩ := hrel
    have hz1 := hb1.size
    have hz2 := hbe.size
    have HMP := Lib.hid hmp
    clear hmp
    by_cases hlt : k < xs.length
    · have hcells := H.out k (by rw [edits_length]; exact hlt)
      have hdrop : (edits 0 xs).drop k = (edits 0 xs)[k]'(by rw [edits_length]; exact hlt) :: (edits 0 xs).drop (k + 1) := List.drop_eq_getElem_cons (by rw [edits_length]; exact hlt)
      rw [edits_at xs 0 k hlt] at hcells hdrop
      obtain ⟨e0, e1, e2⟩ := hcells
      have g0 := (hbe.cell (p := ⟨b, off + k * 3, none⟩) (Nat.lt_of_lt_of_le hb hz1)).trans ((hb1.cell (p := ⟨b, off + k * 3, none⟩) hb).trans e0)
      have g1 := (hbe.cell (p := ⟨b, off + k * 3 + 1, none⟩) (Nat.lt_of_lt_of_le hb hz1)).trans ((hb1.cell (p := ⟨b, off + k * 3 + 1, none⟩) hb).trans e1)
      have g2 := (hbe.cell (p := ⟨b, off + k * 3 + 2, none⟩) (Nat.lt_of_lt_of_le hb hz1)).trans ((hb1.cell (p := ⟨b, off + k * 3 + 2, none⟩) hb).trans e2)
      clear e0 e1 e2
      have hbyk := HY.out k hlt
      have hos : (orig (xs.take (k + 1))).length = 0 + (orig (xs.take k)).length + xs[k].k.length + xs[k].d.length := by rw [orig_take_succ xs k hlt]; simp; omega
      have hms : (made (xs.take (k + 1))).length = (made (xs.take k)).length + xs[k].k.length + xs[k].i.length := by rw [made_take_succ xs k hlt]; simp; omega
      have hle : 0 + (orig (xs.take k)).length + xs[k].k.length + xs[k].d.length ≤ n := by
        rw [HL.out, orig_split xs k hlt]; simp; omega
      have HOS := Lib.hid hos
      have HMS := Lib.hid hms
      have HDR := Lib.hid hdrop
      clear hos hms hdrop
      have hMk : (made (xs.take k)).length ≤ 200000 := by omega
      have hti : (⟨xs[k].i.toArray⟩ : ByteArray).size = xs[k].i.length := by show xs[k].i.toArray.size = _; simp
      have HTI := Lib.hid hti
      have hts : (⟨xs[k].i.toArray⟩ : ByteArray).size ≤ 200000 := by omega
      clear hti hbyk
      generalize hA : (orig (xs.take k)).length = A at *
      generalize hP : 0 + A + xs[k].k.length = P at *
      generalize hE : P + xs[k].d.length = E at *
      generalize hM : (made (xs.take k)).length = M at *
      generalize (⟨xs[k].i.toArray⟩ : ByteArray) = t at *
      have hAP : A ≤ P := by omega
      have hPE : P ≤ E := by omega
      have hPs : P ≤ n := by omega
      have HP := Lib.hid hP
      have HE := Lib.hid hE
      clear hA hP hE hM
      by_cases h2 : at_ < P
      · have hr : mapL (edits 0 xs) 0 at_ = (at_ + (M - A), true) := by rw [HMP.out, HDR.out]; exact mapL_here h2
        have HR := Lib.hid hr
        clear hr
        go_wp2
        go_returns
        exact ⟨ret_pair HR.out, hb1.trans ((hbe.alloc hz2 _).mono hz1)⟩
      · by_cases h3 : at_ < E
        · have hr : mapL (edits 0 xs) 0 at_ = (0, false) := by rw [HMP.out, HDR.out]; exact mapL_taken h2 h3
          have HR := Lib.hid hr
          clear hr
          go_wp2
          go_returns
          exact ⟨ret_pair HR.out, hb1.trans ((hbe.alloc hz2 _).mono hz1)⟩
        · have hr : mapL (edits 0 xs) 0 at_ = mapL ((edits 0 xs).drop (k + 1)) ((M : Int) - A + (t.size - (E - P))) at_ := by rw [HMP.out, HDR.out]; exact mapL_on h2 h3
          have HR := Lib.hid hr
          clear hr
          go_wp2_with fail
          refine (grown_any P E t (by omega) (by omega) (by omega) (by omega) _).mono ?_
          rintro e w6 ⟨rfl, hb6⟩
          have hz6 := hb6.size
          go_wp2
          go_roundw
          case rel =>
            have q1 := HOS.out
            have q2 := HMS.out
            have q3 := HTI.out
            have q4 := HP.out
            have q5 : (((made (xs.take (k + 1))).length : Int) - (orig (xs.take (k + 1))).length) = ((M : Int) - A + (t.size - (E - P))) := by rw [q1, q2]; omega
            refine ⟨k + 1, by omega, by go_num, by rw [q5], (hbe.alloc hz2 _).trans (hb6.mono (by simp; omega)), by rw [q5]; exact HR.out⟩
          case measure => simp [intOf]; omega
    · have hkk : k = xs.length := by omega
      have hr : mapL (edits 0 xs) 0 at_ = (at_ + ((made xs).length - (orig xs).length), true) := by
        rw [HMP.out, hkk, List.drop_of_length_le (by rw [edits_length]; omega), List.take_of_length_le (by omega)]; rfl
      have HR := Lib.hid hr
      have hon : (orig xs).length ≤ n := by rw [HL.out]; simp
      have hta : xs.take k = xs := List.take_of_length_le (by omega)
      clear hr HMP
      rw [hta] at *
      clear hta
      go_wp2
      go_returns
      exact ⟨ret_pair HR.out, hb1.trans (hbe.mono hz1)⟩
end Go.Proofs.Ytficgilapbmmpaa
