/-
  The document's Find and Visible.
-/
import Derived.Test.YtpgmlagkpigdjaaMad
namespace Go.Proofs.Ytpgmlagkpigdjaa
open Go.RowKit
set_option maxRecDepth 20000
set_option linter.unusedVariables false
set_option linter.unusedSimpArgs false

def bnBi (x : Bn) : Bi := ⟨x.h.k, x.h.dc, x.h.via, none, none⟩
def lastN (l : List Bn) (key : Ky) (k : Nat) : Option Nat := lastI (l.map bnBi) key k
def fiV : Option Nat → Int
  | none => -1
  | some i => i
theorem lastN_yes {l : List Bn} {key : Ky} {j : Nat} {x : Bn} (h : l[j]? = some x) (hk : x.h.k = key) : lastN l key (j + 1) = some j := by
  unfold lastN; simp only [lastI]; rw [if_pos (by rw [List.getElem?_map, h]; simp [bnBi, hk])]
theorem lastN_no {l : List Bn} {key : Ky} {j : Nat} {x : Bn} (h : l[j]? = some x) (hk : ¬ x.h.k = key) : lastN l key (j + 1) = lastN l key j := by
  unfold lastN; simp only [lastI]; rw [if_neg (by rw [List.getElem?_map, h]; simp [bnBi, hk])]
set_option maxHeartbeats 8000000 in
theorem find37_any (w : World) (p : Option Addr) (n c : Nat) (l : List Bn) (key : Ky) (hb : BnIn w p n c l) (hn9 : n ≤ 900000) :
    Calls Try.prog 37 #[.slice p n c, .int .i64 key.1, .string key.2] w fun e w' => e = .returned (.int .i64 (fiV (lastN l key l.length))) ∧ ∃ d, w' = w.drewN d := by
  have HB := Lib.hid hb
  have HN := Lib.hid hb.1
  clear hb
  go_enter Try.func37, Try.ntmps37
  go_wp2_with fail
  go_loopw [7] (fun i wr => ∃ (j : Nat), j ≤ n ∧ i = .int .i64 ((j : Int) - 1) ∧ Hid (lastN l key l.length = lastN l key j) ∧ Hid (∃ d, wr = w.drewN d)) (fun i _ => ((intOf i) + 1).toNat)
  case atStart => exact ⟨n, by omega, rfl, Lib.hid (by rw [← HN.out]), Lib.hid ⟨0, rfl⟩⟩
  case round =>
    obtain ⟨j, hj, rfl, HL, HD⟩ := hrel
    have HBW : Hid (Below w.heap.size w wr) := Lib.hid (by obtain ⟨d, hd⟩ := HD.out; rw [hd]; exact below_dN w d)
    cases j with
    | zero =>
      have hE : Hid (fiV (lastN l key l.length) = -1) := Lib.hid (by rw [HL.out]; rfl)
      go_wp2_with fail
      go_ret
      exact ⟨by rw [hE.out]; rfl, HD.out⟩
    | succ j =>
      obtain ⟨hn1, h0' | ⟨gb, ob, rfl, hcb, hgb, hat⟩⟩ := HB.out
      · omega
      obtain ⟨y, hy⟩ : ∃ y, l[j]? = some y := ⟨_, List.getElem?_eq_getElem (by omega)⟩
      obtain ⟨v0, v1, _, _, _, _⟩ := (hat j y hy).step hgb HBW.out
      have hgb2 : gb < wr.heap.size := Nat.lt_of_lt_of_le hgb HBW.out.size
      have hji : (((j + 1 : Nat) : Int) - 1) = ((j : Nat) : Int) := by omega
      rw [hji]
      have r1 : (0 : Int) ≤ (j : Int) := by omega
      have r2 : (j : Int) < (n : Int) := by omega
      by_cases hk : y.h.k = key
      · have hE : Hid (fiV (lastN l key l.length) = (j : Nat)) := Lib.hid (by rw [HL.out, lastN_yes hy hk]; rfl)
        have h1 : (y.h.k.1 == key.1) = true := by rw [hk]; simp
        have h2 : (y.h.k.2.toList == key.2.toList) = true := by rw [hk]; simp
        clear hat hy hk hn1 hji
        go_wp2_with fail
        go_ret
        exact ⟨by rw [hE.out]; rfl, HD.out⟩
      · have HL2 : Hid (lastN l key l.length = lastN l key j) := Lib.hid (by rw [HL.out, lastN_no hy hk])
        have hne : ¬ y.h.k.1 = key.1 ∨ (y.h.k.1 = key.1 ∧ ¬ y.h.k.2 = key.2) := by
          by_cases h1 : y.h.k.1 = key.1
          · exact .inr ⟨h1, fun h2 => hk (Prod.ext h1 h2)⟩
          · exact .inl h1
        clear hat hy hk hn1 hji HL
        rcases hne with h1 | ⟨h1, h2⟩
        · have h1' : (y.h.k.1 == key.1) = false := by simpa using h1
          go_wp2_with fail
          go_roundw
          case rel => exact ⟨j, by omega, rfl, HL2, HD⟩
          case measure => simp [intOf]; try omega
        · have h1' : (y.h.k.1 == key.1) = true := by simpa using h1
          have h2' : (y.h.k.2.toList == key.2.toList) = false := by simp [ba_toList, h2]
          go_wp2_with fail
          go_roundw
          case rel => exact ⟨j, by omega, rfl, HL2, HD⟩
          case measure => simp [intOf]; try omega
end Go.Proofs.Ytpgmlagkpigdjaa
