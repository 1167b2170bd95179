/-
  The document's Kept, walked.
-/
import Derived.Test.YtficgilapbmmpaaRun
import Derived.Test.YtficgilapbmmpaaRefMapB
import Derived.Test.YtficgilapbmmpaaStandsH
namespace Go.Proofs.Ytficgilapbmmpaa
open Go.RowKit
set_option linter.unusedVariables false

structure Outs (w1 wr : World) (v1 v2 : Value) (R : List Str) : Prop where
  own1 : wr.ownsRow w1.heap.size 53 2 v1 R.length (pairCells (pairsOf R))
  own2 : wr.ownsRow w1.heap.size 3 1 v2 R.length (intCells (placesOf R))
  below : Below w1.heap.size w1 wr

theorem row_step {w w1 : World} {base : Nat} {e : TypeId} {size : Nat} {v : Value} {n : Nat} {xs : List Value} (h : w.ownsRow base e size v n xs) (hb : Below w.heap.size w w1) : w1.ownsRow base e size v n xs := by
  refine ⟨h.1, ?_⟩
  rcases h.2 with h0 | ⟨g, cap, cur, hv, hg, hh, r⟩
  · exact .inl h0
  · exact .inr ⟨g, cap, cur, hv, hg, (hb.block g (Array.getElem?_eq_some_iff.1 hh).1).trans hh, r⟩
theorem Outs.step {w1 wr w2 : World} {v1 v2 : Value} {R : List Str} (K : Outs w1 wr v1 v2 R) (hb : Below wr.heap.size wr w2) : Outs w1 w2 v1 v2 R :=
  ⟨row_step K.own1 hb, row_step K.own2 hb, K.below.trans (hb.mono K.below.size)⟩

theorem pairs_snoc (R : List Str) (x : Str) : pairCells (pairsOf (R ++ [x])) = pairCells (pairsOf R) ++ [.int .i64 x.a, .int .i64 x.b] := by
  have : pairsOf (R ++ [x]) = pairsOf R ++ [((x.a : Int), (x.b : Int))] := by simp [pairsOf]
  rw [this, pairCells_append]; rfl
theorem places_snoc (R : List Str) (x : Str) : intCells (placesOf (R ++ [x])) = intCells (placesOf R) ++ [.int .i64 x.t] := by simp [intCells, placesOf]
theorem pairs_len (R : List Str) : (pairCells (pairsOf R)).length = R.length * 2 := by
  induction R with
  | nil => rfl
  | cons x r ih => simp only [pairsOf, List.map_cons, pairCells, List.length_cons] at *; omega

theorem set_mid (x y u : Value) : ∀ A : List Value, (A ++ [x, y]).set (A.length + 1) u = A ++ [x, u]
  | [] => rfl
  | a :: r => by
    have := set_mid x y u r
    simp only [List.cons_append, List.length_cons, List.set_cons_succ, this]

theorem Outs.ends {w1 wr : World} {g cap : Nat} {v2 : Value} {R : List Str} {x : Str} (K : Outs w1 wr (.slice (some ⟨g, 0, none⟩) (R.length + 1) cap) v2 (R ++ [x])) (b : Nat) :
    Outs w1 (wr.setCell ⟨g, R.length * 2 + 1, none⟩ (.int .i64 b)) (.slice (some ⟨g, 0, none⟩) (R.length + 1) cap) v2 (R ++ [⟨x.a, b, x.t⟩]) := by
  obtain ⟨o1, o2, hb⟩ := K
  have hl : (R ++ [x]).length = R.length + 1 := by simp
  have hl2 : (R ++ [(⟨x.a, b, x.t⟩ : Str)]).length = R.length + 1 := by simp
  rw [hl] at o1 o2
  have hst := World.ownsRow.stored o1 (R.length * 2 + 1) (.int .i64 b)
  have hg : w1.heap.size ≤ g := (o1.lt g rfl).1
  refine ⟨?_, ?_, hb.setCell (p := ⟨g, R.length * 2 + 1, none⟩) hg _⟩
  · rw [hl2]
    have := hst.1
    rw [pairs_snoc, ← pairs_len R, set_mid, pairs_len R] at this
    rw [pairs_snoc]
    exact this
  · rw [hl2]
    have h2 := o2.kept hst.2 (by
      rcases rows_apart o1 o2 (by decide) with h | h
      · exact .inl h
      · exact .inr h)
    rw [places_snoc] at h2 ⊢
    exact h2

theorem Outs.form {w1 wr : World} {v1 v2 : Value} {R : List Str} {x : Str} (K : Outs w1 wr v1 v2 (R ++ [x])) :
    ∃ g c, v1 = .slice (some ⟨g, 0, none⟩) (R.length + 1) c ∧ R.length + 1 ≤ c ∧ g < wr.heap.size ∧ wr.cell? ⟨g, R.length * 2 + 1, none⟩ = some (.int .i64 x.b) ∧ wr.frozen? ⟨g, R.length * 2 + 1, none⟩ = false := by
  have o1 := K.own1
  have hl : (R ++ [x]).length = R.length + 1 := by simp
  rw [hl] at o1
  rcases o1.2 with ⟨_, h0⟩ | ⟨g, c, cur, hv, hg, hh, hle, _⟩
  · omega
  · subst hv
    refine ⟨g, c, rfl, hle, (Array.getElem?_eq_some_iff.1 hh).1, ?_, Lib.frozen_of_heap hh _⟩
    have e1 : (pairCells (pairsOf (R ++ [x])))[R.length * 2 + 1]? = some (.int .i64 x.b) := by
      rw [pairs_snoc, List.getElem?_append_right (by rw [pairs_len]; omega), pairs_len, show R.length * 2 + 1 - R.length * 2 = 1 from by omega]; rfl
    have := World.ownsRow.cells o1 (g := g) rfl _ _ e1
    rwa [add_block] at this

theorem runK_length (l : List Ed) (k : Nat) : (runK l 0 k ⟨[], false⟩).R.length ≤ k ∧ ((runK l 0 k ⟨[], false⟩).o = true → (runK l 0 k ⟨[], false⟩).R ≠ []) := by
  induction k with
  | zero => exact ⟨by simp [runK], fun h => by simp [runK] at h⟩
  | succ k ih =>
    rw [runK_snoc]
    generalize runK l 0 k ⟨[], false⟩ = S at *
    obtain ⟨h1, h2⟩ := ih
    simp only [stepK]
    split
    · exact ⟨by show S.R.length ≤ _; omega, fun h => by simp at h⟩
    · split
      · rename_i _ h3
        simp only [Bool.and_eq_true] at h3
        have hne := h2 h3.1
        obtain ⟨R0, x, hR⟩ : ∃ R0 x, S.R = R0 ++ [x] := ⟨S.R.dropLast, S.R.getLast hne, (List.dropLast_concat_getLast hne).symm⟩
        rw [hR, extend_snoc]
        rw [hR] at h1
        refine ⟨by simp at h1 ⊢; omega, fun _ => by simp⟩
      · exact ⟨by simp; omega, fun _ => by simp⟩

theorem clearB_take (k : Nat) (l : List Ed) (j : Nat) (h : j < l.length) : clearB k (l.take (j + 1)) = (clearB k (l.take j) && !(l[j].a == (k : Int))) := by
  rw [List.take_succ_eq_append_getElem h, clearB_append]; simp [clearB]

theorem refKept_bad (n : Int) (p : Option Addr) (m cap : Nat) (l : List Ed) (w : World) (h : EditsIn w p m cap l) (hm : m ≤ 60) (hbad : checkN n l ≠ 0) :
    Calls Try.prog 20 #[.int .i64 n, .slice p m cap] w fun e w' => e = .returned (.tuple #[.slice none 0 0, .slice none 0 0, .int .i64 (checkN n l)]) ∧ Below w.heap.size w w' := by
  have hne : (checkN n l == 0) = false := by rw [beq_eq_false_iff_ne]; exact hbad
  have hne2 : (checkN n l != 0) = true := by rw [bne, hne]; rfl
  have HC := refCheck_any n p m cap l w h hm
  generalize checkN n l = c at *
  go_enter Try.func20, Try.ntmps20
  go_wp2_with (go_at_call 15; refine HC.mono ?_; rintro e w1 ⟨rfl, hb⟩)
  go_returns
  exact ⟨rfl, hb⟩

/-- Map's answer at a byte of the text. -/
theorem map_at (n k : Nat) (p : Option Addr) (m cap : Nat) (l : List Ed) (w : World) (h : EditsIn w p m cap l) (hf : fewB l = true) (hn : n ≤ 100000) (hok : checkN n l = 0) (hk : k < n) (b : Bool) (hb : takenB k l = b) :
    Calls Try.prog 22 #[.int .i64 n, .int .i64 k, .slice p m cap] w fun e w' => e = .returned (.tuple #[.int .i64 (if b then 0 else ((mapL l 0 k).1.toNat : Nat)), .bool (!b)]) ∧ Below w.heap.size w w' := by
  refine (refMap_any n k p m cap l w h hf (by omega)).mono ?_
  rintro e w' ⟨rfl, hbw⟩
  refine ⟨?_, hbw⟩
  rw [mapN_yes hok (by omega) (by omega)]
  obtain ⟨xs, last, hnn, hl, hg⟩ := segs_for hok
  subst hl
  cases b with
  | true => rw [mapL_taken_all xs 0 0 k (by omega) hb]; rfl
  | false =>
    rw [mapL_count xs 0 0 k (by omega) hb]
    show _ = Ending.returned (.tuple #[.int .i64 ((((0 : Int) + cntN (fun j => takenB j (edits 0 xs)) k + insL k (edits 0 xs)).toNat : Nat) : Int), .bool true])
    have : ((((0 : Int) + cntN (fun j => takenB j (edits 0 xs)) k + insL k (edits 0 xs)).toNat : Nat) : Int) = (0 : Int) + cntN (fun j => takenB j (edits 0 xs)) k + insL k (edits 0 xs) := by omega
    rw [this]
theorem mapL_small (n k : Nat) (l : List Ed) (hf : fewB l = true) (hok : checkN n l = 0) (hk : k < n) (hn : n ≤ 100000) (ht : takenB k l = false) : (mapL l 0 k).1.toNat ≤ 200000 := by
  obtain ⟨hl60, hby⟩ := bytes_of_few hf
  obtain ⟨xs, last, hnn, hl, hg⟩ := segs_for hok
  subst hl
  rw [mapL_count xs 0 0 k (by omega) ht]
  have h1 := cntN_le (fun j => takenB j (edits 0 xs)) k
  have h2 := insL_le k (edits 0 xs)
  show ((0 : Int) + cntN (fun j => takenB j (edits 0 xs)) k + insL k (edits 0 xs)).toNat ≤ 200000
  omega

theorem stepK_taken {l : List Ed} {k : Nat} {S : Kst} (h : takenB k l = true) : stepK l k S = ⟨S.R, false⟩ := by simp [stepK, h]
theorem stepK_more {l : List Ed} {k : Nat} {S : Kst} (h : takenB k l = false) (h2 : (S.o && clearB k l) = true) : stepK l k S = ⟨extend S.R (k + 1), true⟩ := by
  simp only [stepK, h, h2]; rfl
theorem stepK_new {l : List Ed} {k : Nat} {S : Kst} (h : takenB k l = false) (h2 : (S.o && clearB k l) = false) : stepK l k S = ⟨S.R ++ [⟨k, k + 1, (mapL l 0 k).1.toNat⟩], true⟩ := by
  simp only [stepK, h, h2]; rfl

set_option maxHeartbeats 4000000 in
theorem refKept_yes (n : Nat) (p : Option Addr) (cap : Nat) (l : List Ed) (w : World) (h : EditsIn w p l.length cap l) (hf : fewB l = true) (hok : checkN n l = 0) (hn : n ≤ 200) :
    Calls Try.prog 20 #[.int .i64 n, .slice p l.length cap] w fun e w' => KeptPost w (pairsOf (runK l 0 n ⟨[], false⟩).R) (placesOf (runK l 0 n ⟨[], false⟩).R) e w' := by
  have hm : l.length ≤ 60 := (bytes_of_few hf).1
  have HC := check_is 15 n p l.length cap l 0 hok w (refCheck_any n p l.length cap l w h hm)
  have HM := fun (k : Nat) (w1 : World) (h1 : EditsIn w1 p l.length cap l) (hk : k < n) (b : Bool) (hb : takenB k l = b) => map_at n k p l.length cap l w1 h1 hf (by omega) hok hk b hb
  have HSM := fun (k : Nat) (hk : k < n) (ht : takenB k l = false) => mapL_small n k l hf hok hk (by omega) ht
  obtain ⟨i0, hi0, hy0, hy1, hy2⟩ := info_parts info53
  obtain ⟨j0, hj0, hx0, hx1, hx2⟩ := info_parts info3
  have HI := Lib.hid h
  have HSMH := Lib.hid HSM
  clear hok hf h HSM
  go_enter Try.func20, Try.ntmps20
  go_wp2_with fail
  refine HC.mono ?_
  rintro e w1 ⟨rfl, hb1⟩
  clear HC
  have hz1 := hb1.size
  go_wp2_with fail
  go_loopw [8, 9, 10, 11] (fun v1 v2 op c wr => ∃ k : Nat, k ≤ n ∧ c = .int .i64 k ∧ op = .bool (runK l 0 k ⟨[], false⟩).o ∧ Outs w1 wr v1 v2 (runK l 0 k ⟨[], false⟩).R) (fun _ _ _ c _ => n - (intOf c).toNat)
  case atStart => exact ⟨0, by omega, rfl, rfl, World.ownsRow_nil _ _ _ _, World.ownsRow_nil _ _ _ _, Below.refl _ _⟩
  case round =>
    obtain ⟨k, hk, rfl, rfl, K⟩ := hrel
    have hrl := runK_length l k
    have hsn := runK_snoc l k ⟨[], false⟩
    have HSN := Lib.hid hsn
    clear hsn
    by_cases hlt : k < n
    · obtain ⟨hrl1, hrl2⟩ := hrl
      have HRN := Lib.hid hrl2
      clear hrl2
      generalize runK l 0 k ⟨[], false⟩ = S at *
      obtain ⟨wo, rfl⟩ : ∃ wo : World, wo = wr := ⟨_, rfl⟩
      have hin : EditsIn wo p l.length cap l := HI.out.step (hb1.trans (K.below.mono hz1))
      have HIN := Lib.hid hin
      have KH := Lib.hid K
      have hz2 := K.below.size
      clear hin K
      go_wp2_with fail
      go_loop [10, 12] (fun op c => ∃ j : Nat, j ≤ l.length ∧ c = .int .i64 j ∧ op = .bool (S.o && clearB k (l.take j))) (fun _ c => l.length - (intOf c).toNat)
      case atStart => exact ⟨0, by omega, rfl, by simp [clearB]⟩
      case round =>
        obtain ⟨j, hj, rfl, rfl⟩ := hrel
        by_cases hlj : j < l.length
        · obtain ⟨b, off, rfl, hcap, hbb, hat⟩ : ∃ b off, p = some ⟨b, off, none⟩ ∧ l.length ≤ cap ∧ b < wo.heap.size ∧ EditsAt wo b off l := by
            rcases HIN.out.2 with h0 | h0
            · omega
            · exact h0
          have e0 := (hat j hlj).1
          have hct := clearB_take k l j hlj
          have HCT := Lib.hid hct
          clear hat hct
          generalize clearB k (l.take j) = q at *
          generalize l[j].a = za at *
          cases hq : (S.o && q) with
          | false =>
            have HQ := Lib.hid hq
            clear hq
            go_wp2_with fail
            go_round
            case rel => exact ⟨j + 1, by omega, by go_num, by rw [HCT.out, ← Bool.and_assoc, HQ.out]; rfl⟩
            case measure => simp [intOf]; omega
          | true =>
            have HQ := Lib.hid hq
            clear hq
            go_wp2_with fail
            refine ⟨⟨j + 1, by omega, by go_num, ?_⟩, by simp [intOf]; omega⟩
            rw [HCT.out, ← Bool.and_assoc, HQ.out]
            rfl
        · have htl : l.take j = l := List.take_of_length_le (by omega)
          rw [htl]
          clear htl
          cases ht : takenB k l with
          | true =>
            have HST := Lib.hid (stepK_taken (S := S) ht)
            have HMT := HM k wo HIN.out hlt true ht
            clear ht HM
            go_wp2_with fail
            refine HMT.mono ?_
            rintro e w5 ⟨rfl, hb5⟩
            clear HMT
            go_wp2_with fail
            go_roundw
            case rel =>
              refine ⟨k + 1, by omega, by go_num, by rw [HSN.out, HST.out], ?_⟩
              rw [HSN.out, HST.out]
              exact KH.out.step hb5
            case measure => simp [intOf]; omega
          | false =>
            have hsm := HSMH.out k hlt ht
            have HMT := HM k wo HIN.out hlt false ht
            cases hq : (S.o && clearB k l) with
            | true =>
              have HST := Lib.hid (stepK_more (S := S) ht hq)
              have hne : S.R ≠ [] := HRN.out (by simp only [Bool.and_eq_true] at hq; exact hq.1)
              obtain ⟨R0, x, hR⟩ : ∃ R0 x, S.R = R0 ++ [x] := ⟨S.R.dropLast, S.R.getLast hne, (List.dropLast_concat_getLast hne).symm⟩
              rw [hR] at KH HST hrl1
              rw [extend_snoc] at HST
              have hR0 : R0.length ≤ 200 := by simp at hrl1; omega
              obtain ⟨g, c, rfl, hc, hg, hcell, hfz⟩ := KH.out.form
              clear ht HM hq hne hR hrl1
              generalize (mapL l 0 k).1.toNat = X at *
              go_wp2_with fail
              refine HMT.mono ?_
              rintro e w5 ⟨rfl, hb5⟩
              have hcell5 := (hb5.cell (p := ⟨g, R0.length * 2 + 1, none⟩) hg).trans hcell
              have hfz5 := (hb5.frozen (p := ⟨g, R0.length * 2 + 1, none⟩) hg).trans hfz
              clear HMT hcell hfz
              go_wp2_with fail
              refine ⟨⟨k + 1, by omega, by go_num, by rw [HSN.out, HST.out], ?_⟩, by simp [intOf]; omega⟩
              rw [HSN.out, HST.out]
              have hfin := (KH.out.step hb5).ends (k + 1)
              have e1 : ((k : Int) + 1) = ((k + 1 : Nat) : Int) := by omega
              rw [e1]
              exact hfin
            | false =>
              have HST := Lib.hid (stepK_new (S := S) ht hq)
              have HQ := Lib.hid hq
              have hR0 : S.R.length ≤ 200 := by omega
              clear ht HM hrl1
              generalize (mapL l 0 k).1.toNat = X at *
              generalize hqq : (S.o && clearB k l) = q at *
              subst hq
              clear hqq
              go_wp2_with fail
              refine HMT.mono ?_
              rintro e w5 ⟨rfl, hb5⟩
              clear HMT
              have K5 := KH.out.step hb5
              have hz5 := K5.below.size
              go_wp2_with (at_builtin; refine wpList_append_lies _ rfl (.tmp 53) (.tmp 57) 37 rfl w1.heap.size 53 i0 (.agg #[.int .i64 0, .int .i64 0]) 2 16 Try.underlying37 hi0 hy0 hy1 hy2 rfl (by omega) u8 S.R.length (pairCells (pairsOf S.R)) rfl (K5.own1.alloc _) ⟨w5.heap.size, 0, none⟩ 1 1 [.int .i64 k, .int .i64 k] rfl rfl (World.news_of_block (cs := #[.int .i64 k, .int .i64 k]) (t := 53) (fr := (0, 0)) (heap_alloc_new w5 _)) (by simp [Value.oneCell']) (by omega) (by unfold maxLen; omega) (by omega) (by simp; omega) (w5.heap.size + 1) (by simp) ?_)
              intro g1 cap1 w6 hown1 hg1 hat1 hlt1
              have own2' : w6.ownsRow w1.heap.size 3 1 u9 S.R.length (intCells (placesOf S.R)) := (K5.own2.alloc _).kept hg1 (rows_apart K5.own1 K5.own2 (by decide))
              have hz6 : w5.heap.size < w6.heap.size := by have := hg1.size; simp at this; omega
              have below6 : Below w1.heap.size w1 w6 := (K5.below.alloc (by omega) _).grown hg1 (by simp; omega) (fun g hg => (K5.own1.lt g hg).1)
              have HO1 := Lib.hid hown1
              have HO2 := Lib.hid own2'
              clear hown1 hg1 hat1 K5
              go_wp2_with (at_builtin; refine wpList_append_lies _ rfl (.tmp 59) (.tmp 61) 38 rfl w1.heap.size 3 j0 (.int .i64 0) 1 8 Try.underlying38 hj0 hx0 hx1 hx2 rfl (by omega) u9 S.R.length (intCells (placesOf S.R)) rfl (own2'.alloc _) ⟨w6.heap.size, 0, none⟩ 1 1 [.int .i64 X] rfl rfl (World.news_of_block (cs := #[.int .i64 X]) (t := 3) (fr := (0, 0)) (heap_alloc_new w6 _)) (by simp [Value.oneCell']) (by omega) (by unfold maxLen; omega) (by omega) (by simp; omega) (w6.heap.size + 1) (by simp) ?_)
              intro g2 cap2 w7 hown2 hg2 hat2 hlt2
              have own1' : w7.ownsRow w1.heap.size 53 2 (.slice (some ⟨g1, 0, none⟩) (S.R.length + 1) cap1) (S.R.length + 1) (pairCells (pairsOf S.R) ++ [.int .i64 k, .int .i64 k]) := (HO1.out.alloc _).kept hg2 (rows_apart own2' HO1.out (by decide))
              have below7 : Below w1.heap.size w1 w7 := (below6.alloc (by omega) _).grown hg2 (by simp; omega) (fun g hg => (own2'.lt g hg).1)
              have K7 : Outs w1 w7 (.slice (some ⟨g1, 0, none⟩) (S.R.length + 1) cap1) (.slice (some ⟨g2, 0, none⟩) (S.R.length + 1) cap2) (S.R ++ [⟨k, k, X⟩]) := by
                have hl : (S.R ++ [(⟨k, k, X⟩ : Str)]).length = S.R.length + 1 := by simp
                refine ⟨?_, ?_, below7⟩
                · rw [hl, pairs_snoc]; exact own1'
                · rw [hl, places_snoc]; exact hown2
              obtain ⟨gg, cc, hgg, hcc, hgl, hcell7, hfz7⟩ := K7.form
              simp only [Value.slice.injEq, Option.some.injEq, Addr.mk.injEq, and_true, true_and] at hgg
              obtain ⟨rfl, rfl⟩ := hgg
              have K7H := Lib.hid K7
              clear own1' hown2 hg2 hat2 own2' K7 below6 below7
              go_wp2_with fail
              refine ⟨⟨k + 1, by omega, by go_num, by rw [HSN.out, HST.out], ?_⟩, by simp [intOf]; omega⟩
              rw [HSN.out, HST.out]
              have hfin := K7H.out.ends (k + 1)
              have e1 : ((k : Int) + 1) = ((k + 1 : Nat) : Int) := by omega
              rw [e1]
              exact hfin
    · have hkn : k = n := by omega
      rw [hkn] at K
      have hpl : ∀ R : List Str, (pairsOf R).length = R.length ∧ (placesOf R).length = R.length := fun R => by simp [pairsOf, placesOf]
      have KH := Lib.hid K
      have HPL := Lib.hid hpl
      clear K hrl hpl
      go_wp2_with fail
      go_returns
      refine ⟨u8, u9, w1.heap.size, rfl, hb1.trans (KH.out.below.mono hz1), ?_, ?_⟩
      · rw [(HPL.out _).1]; exact KH.out.own1
      · rw [(HPL.out _).2]; exact KH.out.own2

theorem refKept_any (n : Nat) (p : Option Addr) (m cap : Nat) (xs : List Seg) (last : List UInt8) (hn : n = (orig xs ++ last).length) (hg : Gap 0 xs) (w : World) (h : EditsIn w p m cap (edits 0 xs)) (hf : fewB (edits 0 xs) = true) (hn2 : n ≤ 200) :
    Calls Try.prog 20 #[.int .i64 n, .slice p m cap] w fun e w' => KeptPost w (pairsOf (told xs n)) (placesOf (told xs n)) e w' := by
  have hm : m = (edits 0 xs).length := h.1
  subst hm
  have hok : checkN (n : Int) (edits 0 xs) = 0 := by rw [hn]; exact check_edits hg
  have := refKept_yes n p cap (edits 0 xs) w h hf hok hn2
  rw [hn, run_all xs last, ← hn] at this
  exact this
end Go.Proofs.Ytficgilapbmmpaa
