/-
  The document's Apply, walked.
-/
import Derived.Test.YtficgilapbmmpaaRefApply
namespace Go.Proofs.Ytficgilapbmmpaa
open Go.RowKit
set_option linter.unusedVariables false

theorem str_app (a b : ByteArray) : (a ++ b).data.toList = a.data.toList ++ b.data.toList := by simp [ByteArray.data_append]
theorem str_len (s : ByteArray) : s.data.toList.length = s.size := by rw [Array.length_toList]; rfl
theorem insAt_len (i : Nat) (l : List Ed) : (insAt i l).length ≤ bytes l := by
  induction l with
  | nil => simp [insAt, bytes]
  | cons x r ih => simp only [insAt, bytes, List.length_append]; split <;> simp only [str_len, List.length_nil] <;> omega
theorem insAt_take_len (i : Nat) (l : List Ed) (j : Nat) : (insAt i (l.take j)).length ≤ bytes l := by
  have h1 := insAt_len i (l.take j)
  have h2 : bytes (l.take j) ≤ bytes l := by
    clear h1
    induction l generalizing j with
    | nil => simp [bytes]
    | cons x r ih =>
      cases j with
      | zero => simp [bytes]
      | succ k => have := ih k; simp [bytes]; omega
  omega
theorem text_le (l : List Ed) (j : Nat) (h : j < l.length) : l[j].t.size ≤ bytes l := by
  induction l generalizing j with
  | nil => exact absurd h (by simp)
  | cons x r ih =>
    cases j with
    | zero => simp [bytes]
    | succ k => have := ih k (by simpa using h); simp [bytes]; omega
theorem goOn_step (s : ByteArray) (l : List Ed) (k : Nat) (h : k < s.size) : goOn l k (s.data.toList.drop k) = insAt k l ++ ((bif takenB k l then [] else (s.extract k (k + 1)).data.toList) ++ goOn l (k + 1) (s.data.toList.drop (k + 1))) := by
  have hl : k < s.data.toList.length := by rw [str_len]; exact h
  have he : (s.extract k (k + 1)).data.toList = [s.data.toList[k]] := by
    rw [Lib.extract_data, show k + 1 - k = 1 from by omega, List.drop_eq_getElem_cons hl]; rfl
  rw [he]
  conv => lhs; rw [List.drop_eq_getElem_cons hl]
  rfl
theorem goOn_end (s : ByteArray) (l : List Ed) : goOn l s.size (s.data.toList.drop s.size) = insAt s.size l := by
  rw [List.drop_of_length_le (by rw [str_len]; exact Nat.le_refl _)]; rfl

theorem refApply_bad (s : ByteArray) (p : Option Addr) (n cap : Nat) (l : List Ed) (w : World) (h : EditsIn w p n cap l) (hm : n ≤ 60) (hs : s.size ≤ 100000) (hbad : checkN s.size l ≠ 0) :
    Calls Try.prog 12 #[.string s, .slice p n cap] w fun e w' => e = .returned (.tuple #[.string ⟨#[]⟩, .int .i64 (checkN s.size l)]) ∧ Below w.heap.size w w' := by
  have hne : (checkN s.size l == 0) = false := by rw [beq_eq_false_iff_ne]; exact hbad
  have hne2 : (checkN s.size l != 0) = true := by rw [bne, hne]; rfl
  have HC := refCheck_any s.size p n cap l w h hm
  generalize checkN s.size l = c at *
  go_enter Try.func12, Try.ntmps12
  go_wp2_with (go_at_call 15; refine HC.mono ?_; rintro e w1 ⟨rfl, hb⟩)
  go_returns
  exact ⟨rfl, hb⟩

theorem ret_str {a b : ByteArray} (h : a = b) : Ending.returned (.tuple #[.string a, .int .i64 0]) = .returned (.tuple #[.string b, .int .i64 0]) := by rw [h]

/-- What a round of the outer loop begins with. -/
def Sofar (s : ByteArray) (l : List Ed) (M : List UInt8) (k : Nat) (o : ByteArray) : Prop :=
  (k ≤ s.size → o.data.toList ++ goOn l k (s.data.toList.drop k) = M) ∧ (k = s.size + 1 → o.data.toList = M)

set_option maxHeartbeats 2000000 in
theorem refApply_yes (s : ByteArray) (p : Option Addr) (cap : Nat) (l : List Ed) (w : World) (M : List UInt8) (h : EditsIn w p l.length cap l) (hm : l.length ≤ 60) (hs : s.size ≤ 2000) (hok : checkN s.size l = 0) (hM : goOn l 0 s.data.toList = M) (hM2 : M.length ≤ 4000) (hby : bytes l ≤ 2000) :
    Calls Try.prog 12 #[.string s, .slice p l.length cap] w fun e w' => e = .returned (.tuple #[.string ⟨M.toArray⟩, .int .i64 0]) ∧ Below w.heap.size w w' := by
  have HC := check_is 15 s.size p l.length cap l 0 hok w (refCheck_any s.size p l.length cap l w h hm)
  have HT := fun w1 (h : EditsIn w1 p l.length cap l) (j : Nat) => taken_is j p l.length cap l w1 h hm (takenB j l) rfl
  have HI := Lib.hid h
  have HS0 : Sofar s l M 0 ⟨#[]⟩ := ⟨fun _ => by simpa using hM, fun h => by omega⟩
  clear hok h hM
  go_enter Try.func12, Try.ntmps12
  go_wp2_with fail
  refine HC.mono ?_
  rintro e w1 ⟨rfl, hb⟩
  have hi1 := HI.out.step hb
  have HI1 := Lib.hid hi1
  clear HC hi1
  go_wp2_with fail
  go_loop [7, 8] (fun ou c => ∃ k : Nat, ∃ o : ByteArray, k ≤ s.size + 1 ∧ c = .int .i64 k ∧ ou = .string o ∧ Sofar s l M k o) (fun _ c => s.size + 1 - (intOf c).toNat)
  case atStart => exact ⟨0, ⟨#[]⟩, by omega, rfl, rfl, HS0⟩
  case round =>
    obtain ⟨k, o, hk, rfl, rfl, hso⟩ := hrel
    clear HS0
    by_cases hlt : k ≤ s.size
    · have hso1 := hso.1 hlt
      have hol : o.size ≤ 4000 := by
        have h1 : (o.data.toList ++ goOn l k (s.data.toList.drop k)).length = M.length := by rw [hso1]
        rw [List.length_append, str_len] at h1
        omega
      have HSO := Lib.hid hso1
      clear hso hso1
      go_wp2_with fail
      go_loop [7, 9] (fun ou c => ∃ j : Nat, ∃ o' : ByteArray, j ≤ l.length ∧ c = .int .i64 j ∧ ou = .string o' ∧ o'.data.toList = o.data.toList ++ insAt k (l.take j)) (fun _ c => l.length - (intOf c).toNat)
      case atStart => exact ⟨0, o, by omega, rfl, rfl, by simp [insAt]⟩
      case round =>
        obtain ⟨j, o', hj, rfl, rfl, ho'⟩ := hrel
        have hol' : o'.size ≤ 6000 := by
          have h1 : o'.data.toList.length = (o.data.toList ++ insAt k (l.take j)).length := by rw [ho']
          have h2 := insAt_take_len k l j
          rw [List.length_append, str_len, str_len] at h1
          omega
        have HO' := Lib.hid ho'
        clear ho'
        by_cases hlj : j < l.length
        · obtain ⟨b, off, rfl, hcap, hbb, hat⟩ : ∃ b off, p = some ⟨b, off, none⟩ ∧ l.length ≤ cap ∧ b < w1.heap.size ∧ EditsAt w1 b off l := by
            rcases HI1.out.2 with h0 | h0
            · omega
            · exact h0
          obtain ⟨e0, e1, e2⟩ := hat j hlj
          have hit := insAt_take k l j hlj
          have hts := text_le l j hlj
          have HIT := Lib.hid hit
          clear hat hit
          by_cases hka : l[j].a = (k : Int)
          · have HKA := Lib.hid hka
            have hbeq : (l[j].a == (k : Int)) = true := by rw [beq_iff_eq]; exact hka
            clear hka
            generalize l[j].a = za at *
            generalize l[j].t = zt at *
            go_wp2_with fail
            refine ⟨⟨j + 1, o' ++ zt, by omega, by go_num, rfl, ?_⟩, by simp [intOf]; omega⟩
            rw [str_app, HO'.out, HIT.out, if_pos HKA.out, List.append_assoc]
          · have HKA := Lib.hid hka
            have hbeq : (l[j].a == (k : Int)) = false := by rw [beq_eq_false_iff_ne]; exact hka
            clear hka
            generalize l[j].a = za at *
            generalize l[j].t = zt at *
            go_wp2_with fail
            refine ⟨⟨j + 1, o', by omega, by go_num, rfl, ?_⟩, by simp [intOf]; omega⟩
            rw [HO'.out, HIT.out, if_neg HKA.out, List.append_nil]
        · have htl : l.take j = l := List.take_of_length_le (by omega)
          rw [htl] at HO'
          clear htl
          by_cases hks : k < s.size
          · have hgo := goOn_step s l k hks
            have hTT := HT w1 HI1.out k
            cases htk : takenB k l with
            | true =>
              rw [htk] at hTT hgo
              have HGO := Lib.hid hgo
              clear hgo htk HT
              go_wp2_with fail
              refine hTT.mono ?_
              rintro e w3 ⟨u, rfl, rfl, hu⟩
              have hu' : 0 ≤ u := hu
              clear hu hTT
              go_wp2_with fail
              go_round
              case rel =>
                refine ⟨k + 1, o', by omega, by go_num, rfl, fun _ => ?_, fun h => by omega⟩
                rw [HO'.out, List.append_assoc, ← HSO.out, HGO.out]
                rfl
              case measure => simp [intOf]; omega
            | false =>
              rw [htk] at hTT hgo
              have HGO := Lib.hid hgo
              have hk1 : k + 1 ≤ s.size := by omega
              have hk2 : (k : Int) + 1 ≤ s.size := by omega
              have hk3 : (0 : Int) ≤ (k : Int) + 1 := by omega
              have hk4 : ((k : Int) + 1).toNat = k + 1 := by omega
              have hk5 : (k : Int) ≤ (k : Int) + 1 := by omega
              have hex : (s.extract k (k + 1)).size ≤ 1 := by rw [ByteArray.size_extract]; omega
              clear hgo htk HT
              go_wp2_with fail
              refine hTT.mono ?_
              rintro e w3 ⟨u, rfl, rfl, hu⟩
              have hu' : u < 0 := hu
              clear hu hTT
              go_wp2_with fail
              go_round
              case rel =>
                refine ⟨k + 1, o' ++ s.extract k (k + 1), by omega, by go_num, rfl, fun _ => ?_, fun h => by omega⟩
                rw [str_app, HO'.out, ← HSO.out, HGO.out]
                simp only [List.append_assoc]
                rfl
              case measure => simp [intOf]; omega
          · have hke : k = s.size := by omega
            have hgo := goOn_end s l
            rw [← hke] at hgo
            have HGO := Lib.hid hgo
            have HKE := Lib.hid hke
            clear hgo hke
            go_wp2_with fail
            go_round
            case rel =>
              refine ⟨k + 1, o', by omega, by go_num, rfl, fun h => by omega, fun _ => ?_⟩
              rw [HO'.out, ← HSO.out, HGO.out]
            case measure => simp [intOf]; omega
    · have hfin := hso.2 (by omega)
      have ho : o = ⟨M.toArray⟩ := by
        rw [← hfin]
      have HO := Lib.hid ho
      clear hso hfin ho
      go_wp2_with fail
      go_returns
      exact ⟨ret_str HO.out, hb⟩
end Go.Proofs.Ytficgilapbmmpaa
