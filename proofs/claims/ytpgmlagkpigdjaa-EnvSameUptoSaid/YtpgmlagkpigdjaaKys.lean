/-
  The keys that are bound (Keys), and rows of keys.
-/
import Derived.Test.YtpgmlagkpigdjaaBnd
namespace Go.Proofs.Ytpgmlagkpigdjaa
open Go.RowKit
set_option maxRecDepth 20000
set_option linter.unusedVariables false
set_option linter.unusedSimpArgs false

def kc (k : Ky) : List Value := [.int .i64 k.1, .string k.2]
def kcells (l : List Ky) : List Value := l.flatMap kc
theorem kcells_length (l : List Ky) : (kcells l).length = l.length * 2 := by
  induction l with
  | nil => rfl
  | cons v r ih => simp only [kcells, List.flatMap_cons, List.length_append] at *; rw [ih]; simp [kc]; omega
theorem kcells_get (l : List Ky) (j : Nat) (v : Ky) (h : l[j]? = some v) (r : Nat) (hr : r < 2) : (kcells l)[j * 2 + r]? = (kc v)[r]? := by
  induction l generalizing j with
  | nil => simp at h
  | cons x t ih =>
    have hx : (kc x).length = 2 := rfl
    simp only [kcells, List.flatMap_cons] at *
    cases j with
    | zero =>
      simp only [List.getElem?_cons_zero, Option.some.injEq] at h
      subst h
      rw [Nat.zero_mul, Nat.zero_add, List.getElem?_append_left (by omega)]
    | succ j =>
      simp only [List.getElem?_cons_succ] at h
      rw [List.getElem?_append_right (by omega), show (j + 1) * 2 + r - (kc x).length = j * 2 + r by omega]
      exact ih j h
/-- A row of keys of a call's own. -/
def OwnK (w : World) (base : Nat) (v : Value) (l : List Ky) : Prop := w.ownsRow base 31 2 v l.length (kcells l)
def KyAt (w : World) (g i : Nat) (k : Ky) : Prop := w.cell? ⟨g, i * 2, none⟩ = some (.int .i64 k.1) ∧ w.cell? ⟨g, i * 2 + 1, none⟩ = some (.string k.2)
theorem OwnK.slice {w : World} {base : Nat} {v : Value} {l : List Ky} (h : OwnK w base v l) : (v = .slice none 0 0 ∧ l = []) ∨ ∃ g c, v = .slice (some ⟨g, 0, none⟩) l.length c ∧ base ≤ g ∧ g < w.heap.size ∧ l.length ≤ c := by
  obtain ⟨hl, ⟨h0, h1⟩ | ⟨g, c, cur, hv, hb, hg, hc, _⟩⟩ := h
  · exact .inl ⟨h0, List.eq_nil_of_length_eq_zero h1⟩
  · exact .inr ⟨g, c, hv, hb, heap_lt hg, hc⟩
theorem OwnK.at_ {w : World} {base g c : Nat} {l : List Ky} (h : OwnK w base (.slice (some ⟨g, 0, none⟩) l.length c) l) (i : Nat) (k : Ky) (hi : l[i]? = some k) : KyAt w g i k := by
  have hl : i < l.length := (List.getElem?_eq_some_iff.1 hi).1
  have h' : w.ownsRow base 31 2 (.slice (some ⟨g, 0, none⟩) l.length c) l.length (kcells l) := h
  have key : ∀ r v, r < 2 → (kc k)[r]? = some v → w.cell? ⟨g, i * 2 + r, none⟩ = some v := fun r v hr hv => by
    rw [h'.cellAt (i * 2 + r) (by omega), kcells_get l i k hi r hr, hv]
  exact ⟨key 0 _ (by omega) rfl, key 1 _ (by omega) rfl⟩
theorem OwnK.step {w w' : World} {base : Nat} {v : Value} {l : List Ky} (h : OwnK w base v l) (hw : Below w.heap.size w w') : OwnK w' base v l := by
  obtain ⟨hl, h0 | ⟨g, c, cur, hv, hb, hg, hr⟩⟩ := h
  · exact ⟨hl, .inl h0⟩
  · exact ⟨hl, .inr ⟨g, c, cur, hv, hb, heap_step hg hw, hr⟩⟩
theorem OwnK.base {w : World} {b b' : Nat} {v : Value} {l : List Ky} (h : OwnK w b v l) (hb : b' ≤ b) : OwnK w b' v l := by
  obtain ⟨hl, h0 | ⟨g, c, cur, hv, hg0, hg, hr⟩⟩ := h
  · exact ⟨hl, .inl h0⟩
  · exact ⟨hl, .inr ⟨g, c, cur, hv, Nat.le_trans hb hg0, hg, hr⟩⟩
theorem news2 (w : World) (k : Ky) : ∀ j u, (kc k)[j]? = some u → (w.alloc (.cells #[.int .i64 k.1, .string k.2] 31)).cell? ((⟨w.heap.size, 0, none⟩ : Addr).add j) = some u := fun j u h => by
  rw [addr_add, cellH (heap_new w _) j, ← h]
  match j with
  | 0 => rfl
  | 1 => rfl
  | j + 2 => simp [kc]
theorem one2 (k : Ky) : ∀ u ∈ kc k, u.oneCell' = true := fun u hu => by
  simp only [kc, List.mem_cons, List.not_mem_nil, or_false] at hu
  rcases hu with rfl | rfl <;> rfl
theorem ownk_snoc {w : World} {base : Nat} {v : Value} {l : List Ky} {k : Ky} (h : w.ownsRow base 31 2 v (l.length + 1) (kcells l ++ kc k)) : OwnK w base v (l ++ [k]) := by
  unfold OwnK
  rw [List.length_append]
  simpa [kcells] using h
def KeysPost (w : World) (l : List Ky) (e : Ending) (w' : World) : Prop := ∃ v, e = .returned v ∧ OwnK w' w.heap.size v l ∧ Below w.heap.size w w'

set_option maxHeartbeats 8000000 in
theorem keys_any (w : World) (p : Option Addr) (l : List Bd) (h : EnvAt w p l) (hn : l.length ≤ 900000) : Calls Try.prog 10 #[.pointer p] w (KeysPost w ((vis ((l.map (·.bi)).reverse)).map (·.k))) := by
  obtain ⟨i31, hi31, hy0, hy1, hy2⟩ : ∃ i31, Try.prog.info? 31 = some i31 ∧ i31.zero = some (.agg #[.int .i64 0, .string ByteArray.empty]) ∧ i31.size = 2 ∧ i31.bytes = 24 := by
    refine ⟨_, rfl, ?_, ?_, ?_⟩ <;> kernel_rfl
  have HA := Lib.hid (bound_any w p l h hn)
  obtain ⟨L, hL⟩ : ∃ L, L = vis ((l.map (·.bi)).reverse) := ⟨_, rfl⟩
  rw [← hL] at HA ⊢
  have HN : Hid (L.length ≤ 900000) := Lib.hid (by rw [hL]; have := visTo_len ((l.map (·.bi)).reverse) ((l.map (·.bi)).reverse).length; unfold vis; simp at this ⊢; omega)
  clear h hn hL
  go_enter Try.func10, Try.ntmps10
  go_wp2_with (go_at_call 20; refine HA.out.mono ?_; rintro e w1 ⟨v, rfl, ho1, hb1⟩; have HO1 := Lib.hid ho1; have HB1 := Lib.hid hb1; obtain ⟨q, n, c, rfl, hbs⟩ := ho1.bs; have HBS := Lib.hid hbs; clear ho1 hb1 hbs)
  obtain ⟨hnl, _⟩ := HBS.out
  have hn9 : n ≤ 900000 := by have := HN.out; omega
  have HNL := Lib.hid hnl
  clear hnl
  go_loopw [3, 9] (fun v i wr => ∃ k : Nat, k ≤ n ∧ i = .int .i64 k ∧ Hid (OwnK wr w1.heap.size v ((L.take k).map (·.k))) ∧ Hid (Below w1.heap.size w1 wr)) (fun _ i _ => n - (intOf i).toNat)
  case atStart => exact ⟨0, by omega, rfl, Lib.hid ⟨rfl, .inl ⟨rfl, rfl⟩⟩, Lib.hid (Below.refl _ _)⟩
  case round =>
    obtain ⟨k, hk, rfl, HO, HB⟩ := hrel
    by_cases hlt : k < n
    · obtain ⟨hn1, h0 | ⟨gb, rfl, hcb, hgb, hat⟩⟩ := HBS.out
      · omega
      obtain ⟨b, hb⟩ : ∃ b, L[k]? = some b := ⟨_, List.getElem?_eq_getElem (by omega)⟩
      obtain ⟨v0, v1, v2, v3, v4, v5⟩ := (hat k b hb).step hgb HB.out
      have hgb2 : gb < wr.heap.size := Nat.lt_of_lt_of_le hgb HB.out.size
      have r1 : (0 : Int) ≤ (k : Int) := by omega
      have r2 : (k : Int) < (n : Int) := by omega
      have hbz := HB.out.size
      have hrow := HO.out
      unfold OwnK at hrow
      have hvl : ((L.take k).map (·.k)).length ≤ 900000 := by simp; omega
      have hbx : (kcells ((L.take k).map (·.k))).length = ((L.take k).map (·.k)).length * 2 := kcells_length _
      have HTK : Hid ((L.take (k + 1)).map (·.k) = (L.take k).map (·.k) ++ [b.k]) := Lib.hid (by rw [List.take_add_one, hb]; simp)
      have HNW : Hid (∀ j u, (kc b.k)[j]? = some u → ((wr.alloc (.cells #[.int .i64 b.k.1, .string b.k.2, .int .i64 b.dc, .int .i64 b.via, .pointer b.pa, .pointer b.pm] 52)).alloc (.cells #[.int .i64 b.k.1, .string b.k.2] 31)).cell? ((⟨wr.heap.size + 1, 0, none⟩ : Addr).add j) = some u) := Lib.hid (by
        have := news2 (wr.alloc (.cells #[.int .i64 b.k.1, .string b.k.2, .int .i64 b.dc, .int .i64 b.via, .pointer b.pa, .pointer b.pm] 52)) b.k
        rwa [show (wr.alloc (.cells #[.int .i64 b.k.1, .string b.k.2, .int .i64 b.dc, .int .i64 b.via, .pointer b.pa, .pointer b.pm] 52)).heap.size = wr.heap.size + 1 by simp] at this)
      clear hat hb hn1
      simp only [at0]
      go_wp2_with (first
        | (at_builtin; refine wpList_append_own _ rfl _ _ 28 rfl w1.heap.size 31 i31 _ 2 24 Try.underlying28 hi31 hy0 hy1 hy2 rfl (by decide) _ _ _ rfl (World.ownsRow.alloc (World.ownsRow.alloc hrow _) _) ⟨_, 0, none⟩ 1 1 (kc b.k) rfl rfl HNW.out (one2 b.k) (by unfold maxLen; omega) (by omega) (by simp; omega) ?_; intro v' w3 hown' hg3 hnil3; have HO' := Lib.hid (ownk_snoc hown'); have HG3 := Lib.hid (((HB.out.alloc hbz _).alloc (by simp; omega) _).grown hg3 (by simp; omega) (fun j hj => (World.ownsRow.lt hrow j hj).1)); clear hown' hg3 hnil3)
        | go_in)
      go_roundw
      case rel => exact ⟨k + 1, by omega, by go_num, Lib.hid (by rw [HTK.out]; exact HO'.out), HG3⟩
      case measure => simp [intOf]; omega
    · have hkn : k = n := by omega
      have HF : Hid (OwnK wr w.heap.size u3 (L.map (·.k))) := Lib.hid (by have := HO.out; rw [hkn, HNL.out, List.take_length] at this; exact this.base HB1.out.size)
      clear hkn HO
      go_wp2_with fail
      go_ret
      exact ⟨_, rfl, HF.out, HB1.out.trans (HB.out.mono HB1.out.size)⟩
end Go.Proofs.Ytpgmlagkpigdjaa
