/-
  slices.EqualFunc over bindings (env.alike).
-/
import Derived.Test.YtpgmlagkpigdjaaSmp
namespace Go.Proofs.Ytpgmlagkpigdjaa
open Go.RowKit
set_option maxRecDepth 20000
set_option linter.unusedVariables false
set_option linter.unusedSimpArgs false

/-- It answers whether P. -/
def BoolPost (w : World) (P : Prop) (e : Ending) (w' : World) : Prop := ∃ b : Bool, e = .returned (.bool b) ∧ (b = true ↔ P) ∧ Below w.heap.size w w'
theorem bool_no {w w' : World} {P : Prop} (h : ¬ P) (hb : Below w.heap.size w w') : BoolPost w P (.returned (.bool false)) w' := ⟨false, rfl, by simp [h], hb⟩
theorem bool_yes {w w' : World} {P : Prop} (h : P) (hb : Below w.heap.size w w') : BoolPost w P (.returned (.bool true)) w' := ⟨true, rfl, by simp [h], hb⟩
theorem bool_is {w w' : World} {P : Prop} {e : Ending} (h : BoolPost w P e w') (hp : P) : e = .returned (.bool true) ∧ Below w.heap.size w w' := by
  obtain ⟨b, rfl, hb, hw⟩ := h
  exact ⟨by rw [hb.2 hp], hw⟩
theorem bool_not {w w' : World} {P : Prop} {e : Ending} (h : BoolPost w P e w') (hp : ¬ P) : e = .returned (.bool false) ∧ Below w.heap.size w w' := by
  obtain ⟨b, rfl, hb, hw⟩ := h
  cases b with
  | false => exact ⟨rfl, hw⟩
  | true => exact absurd (hb.1 rfl) hp
set_option maxHeartbeats 8000000 in
theorem alike31 (w : World) (a b : Bi) :
    Calls Try.prog 31 #[.agg #[.int .i64 a.k.1, .string a.k.2, .int .i64 a.dc, .int .i64 a.via, .pointer a.pa, .pointer a.pm], .agg #[.int .i64 b.k.1, .string b.k.2, .int .i64 b.dc, .int .i64 b.via, .pointer b.pa, .pointer b.pm]] w
      fun e w' => e = .returned (.bool (decide (a.k = b.k ∧ a.dc = b.dc))) ∧ Below w.heap.size w w' := by
  obtain ⟨a, adc, avia, apa, apm⟩ := a
  obtain ⟨b, bdc, bvia, bpa, bpm⟩ := b
  have hq31 := fun W => eql31 a b W
  simp only at *
  by_cases e1 : a = b
  · subst e1
    have hd1 : decide (a = a) = true := by simp
    have hq31b : ∀ W, (binOp .eql 31 (.agg #[.int .i64 a.1, .string a.2]) (.agg #[.int .i64 a.1, .string a.2])).run Try.prog W = .ok (.bool true) W := fun W => by rw [hq31 W]; simp
    by_cases e2 : adc = bdc
    · subst e2
      go_enter Try.func31, Try.ntmps31
      go_wp2_with fail
      go_ret
      exact ⟨by simp, ((Below.refl _ _).alloc (Nat.le_refl _) _).alloc (by simp) _⟩
    · have hq : (adc == bdc) = false := by simp [e2]
      go_enter Try.func31, Try.ntmps31
      go_wp2_with fail
      go_ret
      exact ⟨by simp [e2], ((Below.refl _ _).alloc (Nat.le_refl _) _).alloc (by simp) _⟩
  · have hq31b : ∀ W, (binOp .eql 31 (.agg #[.int .i64 a.1, .string a.2]) (.agg #[.int .i64 b.1, .string b.2])).run Try.prog W = .ok (.bool false) W := fun W => by rw [hq31 W]; simp [e1]
    clear hq31
    go_enter Try.func31, Try.ntmps31
    go_wp2_with fail
    go_ret
    exact ⟨by simp [e1], ((Below.refl _ _).alloc (Nat.le_refl _) _).alloc (by simp) _⟩
def PreAlb (l m : List Bi) (k : Nat) : Prop := ∀ (i : Nat) (a b : Bi), i < k → l[i]? = some a → m[i]? = some b → a.k = b.k ∧ a.dc = b.dc
theorem PreAlb.next {l m : List Bi} {k : Nat} {a b : Bi} (h : PreAlb l m k) (ha : l[k]? = some a) (hb : m[k]? = some b) (he : a.k = b.k ∧ a.dc = b.dc) : PreAlb l m (k + 1) := fun i x y hi hx hy => by
  by_cases hk : i = k
  · subst hk
    rw [ha] at hx; rw [hb] at hy
    obtain rfl := Option.some.inj hx
    obtain rfl := Option.some.inj hy
    exact he
  · exact h i x y (by omega) hx hy
set_option maxHeartbeats 8000000 in
theorem equal30 (w : World) (q q' : Option Addr) (n c n' c' : Nat) (l m : List Bi) (hl : BS w q n c l) (hm : BS w q' n' c' m) (hn9 : n ≤ 900000) :
    Calls Try.prog 30 #[.slice q n c, .slice q' n' c', .func (.func 31) #[] #[]] w (BoolPost w (Alb l m)) := by
  have HL := Lib.hid hl
  have HM := Lib.hid hm
  by_cases hln : l.length = m.length
  · obtain rfl : n = n' := by rw [hl.1, hm.1, hln]
    have HLE := Lib.hid hln
    clear hln hl hm
    go_enter Try.func30, Try.ntmps30
    go_wp2_with fail
    go_loopw [17] (fun i wr => ∃ k : Nat, k ≤ n ∧ i = .int .i64 k ∧ Hid (Below w.heap.size w wr) ∧ Hid (PreAlb l m k)) (fun i _ => n - (intOf i).toNat)
    case atStart => exact ⟨0, by omega, rfl, Lib.hid (Below.refl _ _), Lib.hid fun i a b hi => by omega⟩
    case round =>
      obtain ⟨k, hk, rfl, HBW, HPE⟩ := hrel
      by_cases hlt : k < n
      · obtain ⟨hn1, h0 | ⟨g1, rfl, hc1, hg1, hat1⟩⟩ := HL.out
        · omega
        obtain ⟨hn2, h0 | ⟨g2, rfl, hc2, hg2, hat2⟩⟩ := HM.out
        · omega
        obtain ⟨a, ha⟩ : ∃ a, l[k]? = some a := ⟨_, List.getElem?_eq_getElem (by omega)⟩
        obtain ⟨b, hb⟩ : ∃ b, m[k]? = some b := ⟨_, List.getElem?_eq_getElem (by omega)⟩
        obtain ⟨v0, v1, v2, v3, v4, v5⟩ := (hat1 k a ha).step hg1 HBW.out
        have hg1' : g1 < wr.heap.size := Nat.lt_of_lt_of_le hg1 HBW.out.size
        have hg2' : g2 < wr.heap.size := Nat.lt_of_lt_of_le hg2 HBW.out.size
        obtain ⟨Wa, hWa⟩ : ∃ Wa, Wa = wr.alloc (.cells #[.int .i64 a.k.1, .string a.k.2, .int .i64 a.dc, .int .i64 a.via, .pointer a.pa, .pointer a.pm] 52) := ⟨_, rfl⟩
        have hwb : Below wr.heap.size wr Wa := by rw [hWa]; exact (Below.refl _ _).alloc (Nat.le_refl _) _
        obtain ⟨u0, u1, u2, u3, u4, u5⟩ := (hat2 k b hb).step hg2 (HBW.out.trans (hwb.mono HBW.out.size))
        have HWA := Lib.hid hWa
        have HWB := Lib.hid hwb
        have HC : Hid (∀ W, Below wr.heap.size wr W → Below w.heap.size w W) := Lib.hid fun W hW => HBW.out.trans (hW.mono HBW.out.size)
        have r1 : (0 : Int) ≤ (k : Int) := by omega
        have r2 : (k : Int) < (n : Int) := by omega
        have hga : g2 < Wa.heap.size := Nat.lt_of_lt_of_le hg2' hwb.size
        rw [hWa] at u0 u1 u2 u3 u4 u5 hga
        by_cases he : a.k = b.k ∧ a.dc = b.dc
        · have hd : decide (a.k = b.k ∧ a.dc = b.dc) = true := by simp [he]
          have HP2 := Lib.hid (HPE.out.next ha hb he)
          have HD := Lib.hid hd
          clear hat1 hat2 ha hb he hd hn1 hn2 HPE hWa hwb
          simp only [at0]
          go_wp2_with (first
            | (go_at_call 31; refine (alike31 _ a b).mono ?_; rintro e w3 ⟨he3, hb3⟩; rw [HD.out] at he3; subst he3; have HB3 := Lib.hid hb3; clear hb3)
            | go_in)
          go_roundw
          case rel => exact ⟨k + 1, by omega, by go_num, Lib.hid (HC.out _ ((((Below.refl _ _).alloc (Nat.le_refl _) _).alloc (by simp) _).trans (HB3.out.mono (by simp; omega)))), HP2⟩
          case measure => simp [intOf]; omega
        · have HNO : Hid (¬ Alb l m) := Lib.hid fun h => he (h.2 k a b ha hb)
          have HD : Hid (decide (a.k = b.k ∧ a.dc = b.dc) = false) := Lib.hid (by simp only [decide_eq_false_iff_not]; exact he)
          clear hat1 hat2 ha hb he hn1 hn2 HPE hWa hwb
          simp only [at0]
          go_wp2_with (first
            | (go_at_call 31; refine (alike31 _ a b).mono ?_; rintro e w3 ⟨he3, hb3⟩; rw [HD.out] at he3; subst he3; have HB3 := Lib.hid hb3; clear hb3)
            | go_in)
          go_ret
          exact bool_no HNO.out (HC.out _ ((((Below.refl _ _).alloc (Nat.le_refl _) _).alloc (by simp) _).trans (HB3.out.mono (by simp; omega))))
      · have HYES : Hid (Alb l m) := Lib.hid ⟨HLE.out, fun i a b ha hb => HPE.out i a b (by have h1 := HL.out.1; have h2 := (List.getElem?_eq_some_iff.1 ha).1; omega) ha hb⟩
        go_wp2_with fail
        go_ret
        exact bool_yes HYES.out HBW.out
  · have HLE := Lib.hid hln
    have hnn : ((n : Int) != (n' : Int)) = true := by have h1 := hl.1; have h2 := hm.1; simp only [bne_iff_ne, ne_eq, Int.natCast_inj]; omega
    clear hln hl hm
    go_enter Try.func30, Try.ntmps30
    go_wp2_with fail
    go_ret
    exact bool_no (fun h => HLE.out h.1) (Below.refl _ _)
end Go.Proofs.Ytpgmlagkpigdjaa
