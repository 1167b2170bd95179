/-
  few: true for at most 60 edits whose texts have at most 2000 bytes together.
-/
import Derived.Test.YtficgilapbmmpaaBase
namespace Go.Proofs.Ytficgilapbmmpaa
open Go.RowKit
set_option linter.unusedVariables false

def tot : List Ed → Nat
  | [] => 0
  | x :: r => min x.t.size 5000 + tot r
theorem tot_append (l m : List Ed) : tot (l ++ m) = tot l + tot m := by
  induction l with
  | nil => simp [tot]
  | cons x r ih => simp [tot, ih]; omega
theorem tot_le (l : List Ed) : tot l ≤ 5000 * l.length := by
  induction l with
  | nil => simp [tot]
  | cons x r ih => simp [tot]; omega
theorem tot_take (l : List Ed) (k : Nat) (h : k < l.length) : tot (l.take (k + 1)) = tot (l.take k) + min l[k].t.size 5000 := by
  rw [List.take_succ_eq_append_getElem h, tot_append]; simp [tot]
def fewB (l : List Ed) : Bool := decide (l.length ≤ 60 ∧ tot (l.take 61) ≤ 2000)

set_option maxHeartbeats 400000 in
theorem few_some (l : List Ed) (b off cap : Nat) (w : World) (hc : EditsAt w b off l) (hcap : l.length ≤ cap) (hm : l.length ≤ 9223372036854775807) :
    Calls Try.prog 9 #[.slice (some ⟨b, off, none⟩) l.length cap] w fun e w' => e = .returned (.bool (fewB l)) ∧ w = w' := by
  have H := Lib.hid hc
  clear hc
  go_enter Try.func9, Try.ntmps9
  go_wp2
  go_loop [3, 4] (fun n i => ∃ k : Nat, k ≤ l.length ∧ k ≤ 61 ∧ i = .int .i64 k ∧ n = .int .i64 (tot (l.take k))) (fun _ i => 61 - (intOf i).toNat)
  case atStart => exact ⟨0, by omega, by omega, rfl, rfl⟩
  case round =>
    obtain ⟨k, hk, hk2, rfl, rfl⟩ := hrel
    have ht := tot_le (l.take k)
    have hl : (l.take k).length ≤ k := List.length_take_le _ _
    by_cases h1 : k < l.length
    · by_cases h2 : k ≤ 60
      · have hcell := (H.out k h1).2.2
        have hs := tot_take l k h1
        have HS := Lib.hid hs
        clear hs
        generalize l[k].t = t at hcell HS
        go_wp2
        all_goals
          go_round
          case rel => exact ⟨k + 1, by omega, by omega, by go_num, by have := HS.out; rw [this]; go_num⟩
          case measure => simp [intOf]; omega
      · go_wp2
        go_ret
        refine ⟨ret_bool ?_, rfl⟩
        simp [fewB]; omega
    · have hkl : k = l.length := by omega
      by_cases h2 : l.length ≤ 60
      · go_wp2
        go_ret
        refine ⟨ret_bool ?_, rfl⟩
        subst hkl
        rw [List.take_of_length_le (Nat.le_refl _)] at *
        simp only [fewB]
        rw [List.take_of_length_le (by omega), Bool.eq_iff_iff]
        simp
        omega
      · go_wp2
        go_ret
        refine ⟨ret_bool ?_, rfl⟩
        simp [fewB]; omega

theorem few_none (p : Option Addr) (cap : Nat) (w : World) :
    Calls Try.prog 9 #[.slice p 0 cap] w fun e w' => e = .returned (.bool true) ∧ w = w' := by
  go_enter Try.func9, Try.ntmps9
  go_wp2
  refine wp_loop_rounds 1 ?_
  rw [rounds_succ]
  go_wp2
  go_ret
  exact ⟨rfl, rfl⟩

theorem few_any (p : Option Addr) (n cap : Nat) (l : List Ed) (w : World) (h : EditsIn w p n cap l) (hm : n ≤ 9223372036854775807) :
    Calls Try.prog 9 #[.slice p n cap] w fun e w' => e = .returned (.bool (fewB l)) ∧ w = w' := by
  obtain ⟨hn, h0 | ⟨b, off, rfl, hc, hb, hat⟩⟩ := h
  · subst h0
    have : l = [] := List.length_eq_zero_iff.1 hn.symm
    subst this
    exact few_none p cap w
  · subst hn
    exact few_some l b off cap w hat hc hm

/-- All texts' bytes. -/
def bytes : List Ed → Nat
  | [] => 0
  | x :: r => x.t.size + bytes r
theorem bytes_of_few {l : List Ed} (h : fewB l = true) : l.length ≤ 60 ∧ bytes l ≤ 2000 := by
  simp only [fewB, decide_eq_true_eq] at h
  obtain ⟨h1, h2⟩ := h
  rw [List.take_of_length_le (by omega)] at h2
  refine ⟨h1, ?_⟩
  have : ∀ l : List Ed, tot l ≤ 2000 → bytes l = tot l := by
    intro l
    induction l with
    | nil => intro _; rfl
    | cons x r ih => intro h; simp only [tot, bytes] at *; rw [ih (by omega)]; omega
  rw [this l h2]; exact h2
end Go.Proofs.Ytficgilapbmmpaa
