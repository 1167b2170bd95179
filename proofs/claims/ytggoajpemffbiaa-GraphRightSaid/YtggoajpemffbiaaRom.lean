/-
  How many places a map has (room), and whether a number is mapped: walked.
-/
import Derived.Test.YtggoajpemffbiaaRpt
namespace Go.Proofs.Ytggoajpemffbiaa
open Go.RowKit
set_option maxRecDepth 20000
set_option linter.unusedVariables false
set_option linter.unusedSimpArgs false

/-- Has a map places alone, none twice? -/
def RoomOk (m : List Int) : Prop := (∀ x ∈ m, x = -1 ∨ (0 ≤ x ∧ x < 16777216)) ∧ ∀ (i j : Nat) (x : Int), m[i]? = some x → m[j]? = some x → x ≠ -1 → i = j
/-- What room tells: there are S places, up to the greatest. -/
structure RoomIs (m : List Int) (S : Int) : Prop where
  ok : RoomOk m
  lt : ∀ x ∈ m, x ≠ -1 → x < S
  top : S = 0 ∨ (S - 1) ∈ m ∧ S - 1 ≠ -1
  le : 0 ≤ S ∧ S ≤ 16777216
structure RoomTo (m ks : List Int) (S : Int) : Prop where
  is : RoomIs m S
  ks : ∀ x, x ∈ ks ↔ x ∈ m ∧ x ≠ -1
theorem RoomTo.start : RoomTo [] [] 0 := ⟨⟨⟨fun x h => by simp at h, fun i j x h => by simp at h⟩, fun x h => by simp at h, .inl rfl, by omega⟩, fun x => by simp⟩
theorem RoomTo.skip {m ks : List Int} {S : Int} (h : RoomTo m ks S) : RoomTo (m ++ [-1]) ks S := by
  refine ⟨⟨⟨fun x hx => ?_, fun i j x hi hj hn => ?_⟩, fun x hx hn => ?_, ?_, h.is.le⟩, fun x => ?_⟩
  · rcases List.mem_append.1 hx with hx | hx
    · exact h.is.ok.1 x hx
    · simp at hx; exact .inl hx
  · have key : ∀ k, (m ++ [-1])[k]? = some x → m[k]? = some x := fun k hk => by
      by_cases hkl : k < m.length
      · rwa [List.getElem?_append_left hkl] at hk
      · have hkk := (List.getElem?_eq_some_iff.1 hk).1
        simp at hkk
        obtain rfl : k = m.length := by omega
        simp at hk; exact absurd hk.symm hn
    exact h.is.ok.2 i j x (key i hi) (key j hj) hn
  · rcases List.mem_append.1 hx with hx | hx
    · exact h.is.lt x hx hn
    · simp at hx; exact absurd hx hn
  · rcases h.is.top with h0 | ⟨h0, h1⟩
    · exact .inl h0
    · exact .inr ⟨List.mem_append_left _ h0, h1⟩
  · rw [h.ks]
    constructor
    · rintro ⟨a, b⟩; exact ⟨List.mem_append_left _ a, b⟩
    · rintro ⟨a, b⟩
      rcases List.mem_append.1 a with a | a
      · exact ⟨a, b⟩
      · simp at a; exact absurd a b
theorem RoomTo.add {m ks : List Int} {S x : Int} (h : RoomTo m ks S) (hn : x ∉ ks) (h0 : 0 ≤ x) (h1 : x < 16777216) : RoomTo (m ++ [x]) (ks ++ [x]) (max S (x + 1)) := by
  have hnm : x ∉ m := fun e => hn ((h.ks x).2 ⟨e, by omega⟩)
  refine ⟨⟨⟨fun y hy => ?_, fun i j y hi hj hne => ?_⟩, fun y hy hne => ?_, ?_, ?_⟩, fun y => ?_⟩
  · rcases List.mem_append.1 hy with hy | hy
    · exact h.is.ok.1 y hy
    · simp at hy; subst hy; exact .inr ⟨h0, h1⟩
  · have key : ∀ k, (m ++ [x])[k]? = some y → (k < m.length ∧ m[k]? = some y) ∨ (k = m.length ∧ y = x) := fun k hk => by
      by_cases hkl : k < m.length
      · rw [List.getElem?_append_left hkl] at hk; exact .inl ⟨hkl, hk⟩
      · have hkk := (List.getElem?_eq_some_iff.1 hk).1
        simp at hkk
        obtain rfl : k = m.length := by omega
        simp at hk; exact .inr ⟨rfl, hk.symm⟩
    rcases key i hi with ⟨a1, a2⟩ | ⟨a1, a2⟩ <;> rcases key j hj with ⟨b1, b2⟩ | ⟨b1, b2⟩
    · exact h.is.ok.2 i j y a2 b2 hne
    · exact absurd (by rw [← b2]; exact List.mem_of_getElem? a2) hnm
    · exact absurd (by rw [← a2]; exact List.mem_of_getElem? b2) hnm
    · omega
  · rcases List.mem_append.1 hy with hy | hy
    · have := h.is.lt y hy hne; omega
    · simp at hy; subst hy; omega
  · rcases Int.le_total S (x + 1) with hle | hle
    · rw [Int.max_eq_right hle]; right; exact ⟨by simp, by omega⟩
    · rw [Int.max_eq_left hle]
      rcases h.is.top with e | ⟨e, e2⟩
      · omega
      · right; exact ⟨List.mem_append_left _ e, e2⟩
  · have := h.is.le; omega
  · rw [List.mem_append, h.ks, List.mem_append]; simp
    constructor
    · rintro (⟨a, b⟩ | rfl)
      · exact ⟨.inl a, b⟩
      · exact ⟨.inr rfl, by omega⟩
    · rintro ⟨a | rfl, b⟩
      · exact .inl ⟨a, b⟩
      · exact .inr rfl
theorem room_not {m : List Int} {k : Nat} {x : Int} (hx : m[k]? = some x) (hn : x ≠ -1) (h : (∃ j, j < k ∧ m[j]? = some x) ∨ x < 0 ∨ 16777216 ≤ x) : ¬ RoomOk m := by
  rintro ⟨h1, h2⟩
  rcases h with ⟨j, hj, e⟩ | h
  · have := h2 j k x e hx hn; omega
  · rcases h1 x (List.mem_of_getElem? hx) with e | e <;> omega
set_option maxHeartbeats 8000000 in
theorem room_any (q : Option Addr) (n c : Nat) (m : List Int) (w : World) (hq : IS w q n c m) (hn : n ≤ 1000) (hw : ∀ x ∈ m, W64 x) :
    Calls Try.prog 31 #[.slice q n c] w fun e w' => ((∃ S : Int, e = .returned (.tuple #[.int .i64 S, .bool true]) ∧ RoomIs m S) ∨ (e = .returned (.tuple #[.int .i64 0, .bool false]) ∧ ¬ RoomOk m)) ∧ Below w.heap.size w w' := by
  have hmm := @run_makeMap Try.prog
  have HQ := Lib.hid hq
  have HL := Lib.hid hq.1
  have HW := Lib.hid hw
  have HS0 := Lib.hid (SetI.made w)
  have HB0 := Lib.hid ((Below.refl w.heap.size w).alloc (Nat.le_refl _) (.map #[] 0))
  clear hq hw
  go_enter Try.func31, Try.ntmps31
  go_wp2_with fail
  generalize w.alloc (.map #[] 0) = W0 at *
  obtain ⟨M, hM⟩ : ∃ M, M = w.heap.size := ⟨_, rfl⟩
  rw [← hM]
  have HS1 : Hid (SetI W0 M []) := Lib.hid (by rw [hM]; exact HS0.out)
  have HM : Hid (w.heap.size ≤ M) := Lib.hid (by omega)
  clear HS0 hM
  go_loopw [4, 13] (fun s i wr => ∃ (k : Nat) (ks : List Int) (S : Int), k ≤ n ∧ i = .int .i64 k ∧ s = .int .i64 S ∧ Hid (RoomTo (m.take k) ks S) ∧ Hid (SetI wr M ks) ∧ Hid (Below w.heap.size w wr)) (fun _ i _ => n - (intOf i).toNat)
  case atStart => exact ⟨0, [], 0, by omega, rfl, rfl, Lib.hid RoomTo.start, HS1, HB0⟩
  case round =>
    obtain ⟨k, ks, S, hk, rfl, rfl, HR, HS, HB⟩ := hrel
    clear HS1 HB0
    by_cases hlt : k < n
    · obtain ⟨hxx, h0 | ⟨g, o, rfl, hc, hg, hat⟩⟩ := HQ.out
      · omega
      clear hxx
      obtain ⟨x, hx⟩ : ∃ x, m[k]? = some x := ⟨_, List.getElem?_eq_getElem (by have := HL.out; omega)⟩
      have c0 := (HB.out.cell (p := ⟨g, o + k, none⟩) hg).trans (hat k x hx)
      have hg2 : g < wr.heap.size := Nat.lt_of_lt_of_le hg HB.out.size
      have r1 : (0 : Int) ≤ (k : Int) := by omega
      have r2 : (k : Int) < (n : Int) := by omega
      have HXW := Lib.hid (HW.out x (List.mem_of_getElem? hx))
      have HTK := Lib.hid (take_snoc hx)
      have HX := Lib.hid hx
      clear hat hx
      by_cases hx1 : x = -1
      · have HR2 : Hid (RoomTo (m.take (k + 1)) ks S) := Lib.hid (by rw [HTK.out, hx1]; exact HR.out.skip)
        have hb : (x == -1) = true := by simp [hx1]
        clear hx1
        go_wp2_with fail
        go_roundw
        case rel => exact ⟨k + 1, ks, S, by omega, by go_num, rfl, HR2, HS, HB⟩
        case measure => simp [intOf]; omega
      · have hb : (x == -1) = false := by simpa using hx1
        have HN1 := Lib.hid hx1
        have HSA := Lib.hid (HS.out.step ((Below.refl wr.heap.size wr).alloc (Nat.le_refl _) (.cells #[] 51)))
        have HBA := Lib.hid (HB.out.alloc HB.out.size (.cells #[] 51))
        clear hx1
        cases hin : inI ks x with
        | true =>
          have HNO : Hid (¬ RoomOk m) := Lib.hid (by
            have hm := ((HR.out.ks x).1 ((inI_iff _ _).1 hin)).1
            obtain ⟨j, hj⟩ := List.mem_iff_getElem?.1 hm
            have hjk : j < k := by
              have := (List.getElem?_eq_some_iff.1 hj).1
              simp at this; omega
            rw [List.getElem?_take, if_pos hjk] at hj
            exact room_not HX.out HN1.out (.inl ⟨j, hjk, hj⟩))
          have HIN := Lib.hid hin
          clear hin
          go_wp2_with (at_lookup; refine wpList_setlook _ rfl _ _ rfl M ks rfl HS.out x HXW.out rfl ?_; rw [HIN.out])
          go_returns
          exact ⟨.inr ⟨rfl, HNO.out⟩, HBA.out⟩
        | false =>
          have HIN := Lib.hid hin
          clear hin
          by_cases hx0 : x < 0
          · have HNO : Hid (¬ RoomOk m) := Lib.hid (room_not HX.out HN1.out (.inr (.inl hx0)))
            go_wp2_with (at_lookup; refine wpList_setlook _ rfl _ _ rfl M ks rfl HS.out x HXW.out rfl ?_; rw [HIN.out])
            go_returns
            exact ⟨.inr ⟨rfl, HNO.out⟩, HBA.out⟩
          · by_cases hx2 : (16777216 : Int) ≤ x
            · have HNO : Hid (¬ RoomOk m) := Lib.hid (room_not HX.out HN1.out (.inr (.inr hx2)))
              go_wp2_with (at_lookup; refine wpList_setlook _ rfl _ _ rfl M ks rfl HS.out x HXW.out rfl ?_; rw [HIN.out])
              go_returns
              exact ⟨.inr ⟨rfl, HNO.out⟩, HBA.out⟩
            · have HR2 : Hid (RoomTo (m.take (k + 1)) (ks ++ [x]) (max S (x + 1))) := Lib.hid (by rw [HTK.out]; exact HR.out.add (not_inI HIN.out) (by omega) (by omega))
              have hwr : IntKind.i64.wrap (x + 1) = x + 1 := IntWalk.i64_in _ (by omega)
              have HSM : Hid (∀ S2 : Int, S2 = max S (x + 1) → RoomTo (m.take (k + 1)) (ks ++ [x]) S2) := Lib.hid fun S2 e => by rw [e]; exact HR2.out
              go_wp2_with (first
                | (at_lookup; refine wpList_setlook _ rfl _ _ rfl M ks rfl HS.out x HXW.out rfl ?_; rw [HIN.out])
                | (at_mapUpdate; refine wpList_setupd _ rfl _ _ _ rfl M ks rfl HSA.out x HXW.out rfl rfl ?_; intro w3 hs3 hw3; rw [addI_no HIN.out] at hs3; have HS3 := Lib.hid hs3; have HB3 := Lib.hid (hw3.bel _ _ HM.out HBA.out); clear hs3 hw3))
              go_roundw
              case rel => exact ⟨k + 1, _, _, by omega, by go_num, rfl, Lib.hid (HSM.out _ (by split <;> omega)), HS3, HB3⟩
              case measure => simp [intOf]; omega
    · have hkn : k = n := by omega
      have HF : Hid (RoomIs m S) := Lib.hid (by have := HR.out.is; rwa [hkn, HL.out, List.take_length] at this)
      clear hkn
      go_wp2_with fail
      go_returns
      exact ⟨.inl ⟨S, rfl, HF.out⟩, HB.out⟩
/-- Is a number mapped? -/
def mAt (m : List Int) (x : Int) : Int := match m[x.toNat]? with | some y => y | none => -1
def mpd (m : List Int) (x : Int) : Bool := decide (0 ≤ x) && decide (x < m.length) && (mAt m x != -1)
end Go.Proofs.Ytggoajpemffbiaa
