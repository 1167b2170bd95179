/-
  The document's Find and Visible.; The document's Visible, and rows of its bindings of a call's own.; What two lists of bindings bear: a list of the document's and an environment.; A match of two lists of bindings (P12.1), in plain.; What it is that two lists of bindings say the same (P11.4), as plain facts.
-/
import Derived.Test.YtagkpcnedccaiaaFN
import Derived.Test.YtagkpcnedccaiaaFB
namespace Go.Proofs.Ytagkpcnedccaiaa
open Go.RowKit
set_option maxRecDepth 20000
set_option linter.unusedVariables false
set_option linter.unusedSimpArgs false

def bnBi (x : Bn) : Bi := ⟨x.h.k, x.h.dc, x.h.via, none, none⟩
def lastN (l : List Bn) (key : Ky) (k : Nat) : Option Nat := lastI (l.map bnBi) key k
def fiV : Option Nat → Int
 | none => -1
 | some i => i
theorem lastN_yes {l : List Bn} {key : Ky} {j : Nat} {x : Bn} (h : l[j]? = some x) (hk : x.h.k = key) : lastN l key (j + 1) = some j := by
 unfold lastN; simp only [lastI]; rw [if_pos (by rw [List.getElem?_map, h]; simp [bnBi, hk])]
theorem lastN_no {l : List Bn} {key : Ky} {j : Nat} {x : Bn} (h : l[j]? = some x) (hk : ¬ x.h.k = key) : lastN l key (j + 1) = lastN l key j := by
 unfold lastN; simp only [lastI]; rw [if_neg (by rw [List.getElem?_map, h]; simp [bnBi, hk])]
set_option maxHeartbeats 8000000 in
theorem find37_any (w : World) (p : Option Addr) (n c : Nat) (l : List Bn) (key : Ky) (hb : BnIn w p n c l) (hn9 : n ≤ 900000) :
  Calls Try.prog 27 #[.slice p n c, .int .i64 key.1, .string key.2] w fun e w' => e = .returned (.int .i64 (fiV (lastN l key l.length))) ∧ ∃ d, w' = w.drewN d := by
 have HB := Lib.hid hb
 have HN := Lib.hid hb.1
 clear hb
 go_enter Try.func27, Try.ntmps27
 go_wp2_with fail
 go_loopw [7] (fun i wr => ∃ (j : Nat), j ≤ n ∧ i = .int .i64 ((j : Int) - 1) ∧ Hid (lastN l key l.length = lastN l key j) ∧ Hid (∃ d, wr = w.drewN d)) (fun i _ => ((intOf i) + 1).toNat)
 case atStart => exact ⟨n, by omega, rfl, Lib.hid (by rw [← HN.out]), Lib.hid ⟨0, rfl⟩⟩
 case round =>
  obtain ⟨j, hj, rfl, HL, HD⟩ := hrel
  have HBW : Hid (Below w.heap.size w wr) := Lib.hid (by obtain ⟨d, hd⟩ := HD.out; rw [hd]; exact below_dN w d)
  cases j with
  | zero =>
   have hE : Hid (fiV (lastN l key l.length) = -1) := Lib.hid (by rw [HL.out]; rfl)
   go_wp2_with fail
   go_ret
   exact ⟨by rw [hE.out]; rfl, HD.out⟩
  | succ j =>
   obtain ⟨hn1, h0' | ⟨gb, ob, rfl, hcb, hgb, hat⟩⟩ := HB.out
   ·omega
   obtain ⟨y, hy⟩ : ∃ y, l[j]? = some y := ⟨_, List.getElem?_eq_getElem (by omega)⟩
   obtain ⟨v0, v1, _, _, _, _⟩ := (hat j y hy).step hgb HBW.out
   have hgb2 : gb < wr.heap.size := Nat.lt_of_lt_of_le hgb HBW.out.size
   have hji : (((j + 1 : Nat) : Int) - 1) = ((j : Nat) : Int) := by omega
   rw [hji]
   have r1 : (0 : Int) ≤ (j : Int) := by omega
   have r2 : (j : Int) < (n : Int) := by omega
   by_cases hk : y.h.k = key
   ·have hE : Hid (fiV (lastN l key l.length) = (j : Nat)) := Lib.hid (by rw [HL.out, lastN_yes hy hk]; rfl)
    have h1 : (y.h.k.1 == key.1) = true := by rw [hk]; simp
    have h2 : (y.h.k.2.toList == key.2.toList) = true := by rw [hk]; simp
    clear hat hy hk hn1 hji
    go_wp2_with fail
    go_ret
    exact ⟨by rw [hE.out]; rfl, HD.out⟩
   ·have HL2 : Hid (lastN l key l.length = lastN l key j) := Lib.hid (by rw [HL.out, lastN_no hy hk])
    have hne : ¬ y.h.k.1 = key.1 ∨ (y.h.k.1 = key.1 ∧ ¬ y.h.k.2 = key.2) := by
     by_cases h1 : y.h.k.1 = key.1
     ·exact .inr ⟨h1, fun h2 => hk (Prod.ext h1 h2)⟩
     ·exact .inl h1
    clear hat hy hk hn1 hji HL
    rcases hne with h1 | ⟨h1, h2⟩
    ·have h1' : (y.h.k.1 == key.1) = false := by simpa using h1
     go_wp2_with fail
     go_roundw
     case rel => exact ⟨j, by omega, rfl, HL2, HD⟩
     case measure => simp [intOf]; try omega
    ·have h1' : (y.h.k.1 == key.1) = true := by simpa using h1
     have h2' : (y.h.k.2.toList == key.2.toList) = false := by simp [ba_toList, h2]
     go_wp2_with fail
     go_roundw
     case rel => exact ⟨j, by omega, rfl, HL2, HD⟩
     case measure => simp [intOf]; try omega
end Go.Proofs.Ytagkpcnedccaiaa

namespace Go.Proofs.Ytagkpcnedccaiaa
open Go.RowKit
set_option maxRecDepth 20000
set_option linter.unusedVariables false
set_option linter.unusedSimpArgs false

def Bh.cells (h : Bh) : List Value := [.int .i64 h.k.1, .string h.k.2, .int .i64 h.dc, .int .i64 h.via, .slice h.pp h.pn h.pc, .slice h.qp h.qn h.qc]
def hcells (l : List Bh) : List Value := l.flatMap Bh.cells
theorem hcells_append (a b : List Bh) : hcells (a ++ b) = hcells a ++ hcells b := by simp [hcells]
theorem hcells_length (l : List Bh) : (hcells l).length = l.length * 6 := by
 induction l with
 | nil => rfl
 | cons v r ih => simp only [hcells, List.flatMap_cons, List.length_append] at *; rw [ih]; simp [Bh.cells]; omega
theorem hcells_get (l : List Bh) (j : Nat) (v : Bh) (h : l[j]? = some v) (r : Nat) (hr : r < 6) : (hcells l)[j * 6 + r]? = v.cells[r]? := by
 induction l generalizing j with
 | nil => simp at h
 | cons x t ih =>
  have hx : x.cells.length = 6 := rfl
  simp only [hcells, List.flatMap_cons] at *
  cases j with
  | zero =>
   simp only [List.getElem?_cons_zero, Option.some.injEq] at h
   subst h
   rw [Nat.zero_mul, Nat.zero_add, List.getElem?_append_left (by omega)]
  | succ j =>
   simp only [List.getElem?_cons_succ] at h
   rw [List.getElem?_append_right (by omega), show (j + 1) * 6 + r - x.cells.length = j * 6 + r by omega]
   exact ih j h
def OwnN (w : World) (base : Nat) (v : Value) (l : List Bn) : Prop := w.ownsRow base 33 6 v l.length (hcells (l.map Bn.h))
theorem OwnN.step {w w' : World} {base : Nat} {v : Value} {l : List Bn} (h : OwnN w base v l) (hw : Below w.heap.size w w') : OwnN w' base v l := by
 obtain ⟨hl, h0 | ⟨g, c, cur, hv, hb, hg, hr⟩⟩ := h
 ·exact ⟨hl, .inl h0⟩
 ·exact ⟨hl, .inr ⟨g, c, cur, hv, hb, heap_step hg hw, hr⟩⟩
theorem OwnN.base {w : World} {b b' : Nat} {v : Value} {l : List Bn} (h : OwnN w b v l) (hb : b' ≤ b) : OwnN w b' v l := by
 obtain ⟨hl, h0 | ⟨g, c, cur, hv, hg0, hg, hr⟩⟩ := h
 ·exact ⟨hl, .inl h0⟩
 ·exact ⟨hl, .inr ⟨g, c, cur, hv, Nat.le_trans hb hg0, hg, hr⟩⟩
theorem OwnN.slice {w : World} {base : Nat} {v : Value} {l : List Bn} (h : OwnN w base v l) : (v = .slice none 0 0 ∧ l = []) ∨ ∃ g c, v = .slice (some ⟨g, 0, none⟩) l.length c ∧ base ≤ g ∧ g < w.heap.size ∧ l.length ≤ c := by
 obtain ⟨hl, ⟨h0, h1⟩ | ⟨g, c, cur, hv, hb, hg, hc, _⟩⟩ := h
 ·exact .inl ⟨h0, List.eq_nil_of_length_eq_zero h1⟩
 ·exact .inr ⟨g, c, hv, hb, heap_lt hg, hc⟩
theorem OwnN.at_ {w : World} {base g c : Nat} {l : List Bn} (h : OwnN w base (.slice (some ⟨g, 0, none⟩) l.length c) l) (i : Nat) (x : Bn) (hi : l[i]? = some x) : BnAt w g (0 + i * 6) x.h := by
 have hl : i < l.length := (List.getElem?_eq_some_iff.1 hi).1
 have h' : w.ownsRow base 33 6 (.slice (some ⟨g, 0, none⟩) l.length c) l.length (hcells (l.map Bn.h)) := h
 have hx : (l.map Bn.h)[i]? = some x.h := by simp [hi]
 have key : ∀ r v, r < 6 → x.h.cells[r]? = some v → w.cell? ⟨g, i * 6 + r, none⟩ = some v := fun r v hr hv => by
  rw [h'.cellAt (i * 6 + r) (by omega), hcells_get (l.map Bn.h) i x.h hx r hr, hv]
 rw [Nat.zero_add]
 exact ⟨key 0 _ (by omega) rfl, key 1 _ (by omega) rfl, key 2 _ (by omega) rfl, key 3 _ (by omega) rfl, key 4 _ (by omega) rfl, key 5 _ (by omega) rfl⟩
theorem OwnN.bn {w : World} {base : Nat} {v : Value} {l : List Bn} (h : OwnN w base v l) : ∃ q n c, v = .slice q n c ∧ BnIn w q n c l := by
 rcases h.slice with ⟨rfl, rfl⟩ | ⟨g, c, rfl, hb, hg, hc⟩
 ·exact ⟨none, 0, 0, rfl, rfl, .inl rfl⟩
 ·exact ⟨some ⟨g, 0, none⟩, _, c, rfl, rfl, .inr ⟨g, 0, rfl, hc, hg, fun i x hi => h.at_ i x hi⟩⟩
theorem newsN (w : World) (h : Bh) : ∀ j u, h.cells[j]? = some u → (w.alloc (.cells #[.int .i64 h.k.1, .string h.k.2, .int .i64 h.dc, .int .i64 h.via, .slice h.pp h.pn h.pc, .slice h.qp h.qn h.qc] 33)).cell? ((⟨w.heap.size, 0, none⟩ : Addr).add j) = some u := fun j u hh => by
 rw [addr_add, cellH (heap_new w _) j, ← hh]
 match j with
 | 0 => rfl
 | 1 => rfl
 | 2 => rfl
 | 3 => rfl
 | 4 => rfl
 | 5 => rfl
 | j + 6 => simp [Bh.cells]
theorem oneN (h : Bh) : ∀ u ∈ h.cells, u.oneCell' = true := fun u hu => by
 simp only [Bh.cells, List.mem_cons, List.not_mem_nil, or_false] at hu
 rcases hu with rfl | rfl | rfl | rfl | rfl | rfl <;> rfl
theorem ownN_snoc {w : World} {base : Nat} {v : Value} {l : List Bn} {x : Bn} (h : w.ownsRow base 33 6 v (l.length + 1) (hcells (l.map Bn.h) ++ x.h.cells)) : OwnN w base v (l ++ [x]) := by
 unfold OwnN
 rw [List.map_append, hcells_append, List.length_append]
 simpa [hcells] using h
/-- Of the first k bindings those to which names are bound. -/
def visToN (l : List Bn) : Nat → List Bn
 | 0 => []
 | k + 1 => visToN l k ++ (match l[k]? with | some x => if lastN l x.h.k l.length = some k then [x] else [] | none => [])
def visN (l : List Bn) : List Bn := visToN l l.length
theorem visToN_yes {l : List Bn} {k : Nat} {x : Bn} (h : l[k]? = some x) (hl : lastN l x.h.k l.length = some k) : visToN l (k + 1) = visToN l k ++ [x] := by
 simp only [visToN, h]; rw [if_pos hl]
theorem visToN_no {l : List Bn} {k : Nat} {x : Bn} (h : l[k]? = some x) (hl : ¬ lastN l x.h.k l.length = some k) : visToN l (k + 1) = visToN l k := by
 simp only [visToN, h]; rw [if_neg hl]; simp
theorem visToN_len (l : List Bn) : ∀ k, (visToN l k).length ≤ k
 | 0 => by simp [visToN]
 | k + 1 => by
  have := visToN_len l k
  simp only [visToN, List.length_append]
  split
  ·split <;> simp <;> omega
  ·simp; omega
theorem visToN_mem (l : List Bn) : ∀ k x, x ∈ visToN l k → x ∈ l
 | 0, x, h => by simp [visToN] at h
 | k + 1, x, h => by
  simp only [visToN, List.mem_append] at h
  rcases h with h | h
  ·exact visToN_mem l k x h
  ·split at h
   ·rename_i y hy
    split at h
    ·simp only [List.mem_singleton] at h; subst h; exact List.mem_of_getElem? hy
    ·cases h
   ·cases h
def VisPost (w : World) (l : List Bn) (e : Ending) (w' : World) : Prop := ∃ v, e = .returned v ∧ OwnN w' w.heap.size v l ∧ Below w.heap.size w w'
set_option maxHeartbeats 8000000 in
theorem visible_any (w : World) (p : Option Addr) (n c : Nat) (l : List Bn) (hb : BnIn w p n c l) (hn9 : n ≤ 900000) :
  Calls Try.prog 26 #[.slice p n c] w (VisPost w (visN l)) := by
 obtain ⟨i45, hi45, hy0, hy1, hy2⟩ : ∃ i45, Try.prog.info? 33 = some i45 ∧ i45.zero = some (.agg #[.int .i64 0, .string ByteArray.empty, .int .i64 0, .int .i64 0, .slice none 0 0, .slice none 0 0]) ∧ i45.size = 6 ∧ i45.bytes = 88 := by
  refine ⟨_, rfl, ?_, ?_, ?_⟩ <;> kernel_rfl
 have HB := Lib.hid hb
 have HN := Lib.hid hb.1
 clear hb
 go_enter Try.func26, Try.ntmps26
 go_wp2_with fail
 go_loopw [3, 4] (fun v i wr => ∃ k : Nat, k ≤ n ∧ i = .int .i64 k ∧ Hid (OwnN wr w.heap.size v (visToN l k)) ∧ Hid (Below w.heap.size w wr)) (fun _ i _ => n - (intOf i).toNat)
 case atStart => exact ⟨0, by omega, rfl, Lib.hid ⟨rfl, .inl ⟨rfl, rfl⟩⟩, Lib.hid (Below.refl _ _)⟩
 case round =>
  obtain ⟨k, hk, rfl, HO, HBW⟩ := hrel
  by_cases hlt : k < n
  ·obtain ⟨hn1, h0' | ⟨gb, ob, rfl, hcb, hgb, hat⟩⟩ := HB.out
   ·omega
   obtain ⟨y, hy⟩ : ∃ y, l[k]? = some y := ⟨_, List.getElem?_eq_getElem (by omega)⟩
   obtain ⟨v0, v1, v2, v3, v4, v5⟩ := (hat k y hy).step hgb HBW.out
   have hgb2 : gb < wr.heap.size := Nat.lt_of_lt_of_le hgb HBW.out.size
   have HF : Hid (∀ d, Calls Try.prog 27 #[.slice (some ⟨gb, ob, none⟩) n c, .int .i64 y.h.k.1, .string y.h.k.2] (wr.drewN d) fun e w' => e = .returned (.int .i64 (fiV (lastN l y.h.k l.length))) ∧ ∃ m, w' = wr.drewN m) := Lib.hid fun d => by
    refine (find37_any (wr.drewN d) _ n c l y.h.k (HB.out.step (below_drewN HBW.out d)) hn9).mono ?_
    rintro e w' ⟨h1, d', h2⟩
    exact ⟨h1, d + d', by rw [h2, World.drewN_drewN]⟩
   have r1 : (0 : Int) ≤ (k : Int) := by omega
   have r2 : (k : Int) < (n : Int) := by omega
   have HY := Lib.hid hy
   have hbz := HBW.out.size
   have hdec : lastN l y.h.k l.length = some k ∨ ¬ lastN l y.h.k l.length = some k := Decidable.em _
   have hf := HF.out
   generalize hh : y.h = h at *
   rcases hdec with hd | hd
   ·have HV := Lib.hid (visToN_yes HY.out (by rw [hh]; exact hd))
    rw [hd] at hf
    simp only [fiV] at hf
    have hrow := HO.out
    unfold OwnN at hrow
    have hvl := visToN_len l k
    have hbx : (hcells ((visToN l k).map Bn.h)).length = (visToN l k).length * 6 := by rw [hcells_length, List.length_map]
    have HNW : Hid (∀ d, ∀ j u, h.cells[j]? = some u → ((wr.drewN d).alloc (.cells #[.int .i64 h.k.1, .string h.k.2, .int .i64 h.dc, .int .i64 h.via, .slice h.pp h.pn h.pc, .slice h.qp h.qn h.qc] 33)).cell? ((⟨wr.heap.size, 0, none⟩ : Addr).add j) = some u) := Lib.hid fun d => newsN (wr.drewN d) h
    have HRD : Hid (∀ d, (wr.drewN d).ownsRow w.heap.size 33 6 u3 (visToN l k).length (hcells ((visToN l k).map Bn.h))) := Lib.hid fun d => OwnN.step HO.out (below_dN wr d)
    have HHH := Lib.hid hh
    clear hat hy hn1 hd HF hh
    go_wp2_with fail
    go_quiet (first | (with_reducible exact hf _))
    go_wp2_with (first
     | (at_builtin; refine wpList_append_own _ rfl _ _ 22 rfl w.heap.size 33 i45 _ 6 88 Try.underlying22 hi45 hy0 hy1 hy2 rfl (by decide) _ _ _ rfl (World.ownsRow.alloc (HRD.out _) _) ⟨_, 0, none⟩ 1 1 h.cells rfl rfl (HNW.out _) (oneN h) (by unfold maxLen; omega) (by omega) (by simp; omega) ?_; intro v' w3 hown' hg3 hnil3; have HO' := Lib.hid hown'; have HG3 := Lib.hid (((below_drewN HBW.out _).alloc hbz _).grown hg3 (by simp; omega) (fun j hj => (World.ownsRow.lt hrow j hj).1)); clear hown' hg3 hnil3)
     | go_in)
    refine ⟨⟨k + 1, by omega, by go_num, Lib.hid ?_, HG3⟩, by simp [intOf]; omega⟩
    rw [HV.out]
    have := HO'.out
    rw [← HHH.out] at this
    exact ownN_snoc this
   ·have HV := Lib.hid (visToN_no HY.out (by rw [hh]; exact hd))
    have hfi : ¬ fiV (lastN l h.k l.length) = (k : Nat) := by
     intro e
     cases hc : lastN l h.k l.length with
     | none => rw [hc] at e; simp [fiV] at e
     | some j => rw [hc] at e hd; simp only [fiV] at e; exact hd (congrArg some (by omega))
    have hfi2 : (fiV (lastN l h.k l.length) == (k : Int)) = false := by simpa using hfi
    generalize fiV (lastN l h.k l.length) = F at *
    clear hat hy hn1 hd HF hh hfi
    go_wp2_with fail
    go_quiet (first | (with_reducible exact hf _))
    go_wp2_with fail
    go_roundw
    case rel => exact ⟨k + 1, by omega, by go_num, Lib.hid (by rw [HV.out]; exact HO.out.step (below_dN wr _)), Lib.hid (below_drewN HBW.out _)⟩
    case measure => simp [intOf]; omega
  ·have hkn : k = n := by omega
   have HF : Hid (OwnN wr w.heap.size u3 (visN l)) := Lib.hid (by have := HO.out; rw [hkn, HN.out] at this; exact this)
   clear hkn HO
   go_wp2_with fail
   go_ret
   exact ⟨_, rfl, HF.out, HBW.out⟩
end Go.Proofs.Ytagkpcnedccaiaa

namespace Go.Proofs.Ytagkpcnedccaiaa
open Go.RowKit
set_option maxRecDepth 20000
set_option linter.unusedVariables false
set_option linter.unusedSimpArgs false

theorem visTo_last (l : List Bi) : ∀ k b, b ∈ visTo l k → ∃ i, i < k ∧ l[i]? = some b ∧ lastI l b.k l.length = some i
 | 0, b, h => by simp [visTo] at h
 | k + 1, b, h => by
  simp only [visTo, List.mem_append] at h
  rcases h with h | h
  ·obtain ⟨i, h1, h2⟩ := visTo_last l k b h
   exact ⟨i, by omega, h2⟩
  ·split at h
   ·rename_i y hy
    split at h
    ·rename_i hl
     simp only [List.mem_singleton] at h; subst h
     exact ⟨k, by omega, hy, hl⟩
    ·cases h
   ·cases h
theorem lastI_prefix (a b : List Bi) (key : Ky) : ∀ k, k ≤ a.length → lastI (a ++ b) key k = lastI a key k
 | 0, _ => rfl
 | k + 1, h => by
  simp only [lastI]
  rw [List.getElem?_append_left (by omega), lastI_prefix a b key k (by omega)]
theorem visTo_nodup (l : List Bi) : ∀ k, ((visTo l k).map (·.k)).Nodup
 | 0 => by simp [visTo]
 | k + 1 => by
  have ih := visTo_nodup l k
  simp only [visTo]
  split
  ·rename_i y hy
   split
   ·rename_i hl
    rw [List.map_append]
    refine List.nodup_append.2 ⟨ih, by simp, ?_⟩
    intro a ha b hb e
    simp only [List.map_cons, List.map_nil, List.mem_singleton] at hb
    obtain ⟨z, hz, rfl⟩ := List.mem_map.1 ha
    obtain ⟨i, hi, _, h3⟩ := visTo_last l k z hz
    rw [e, hb, hl] at h3
    have := Option.some.inj h3
    omega
   ·simpa using ih
  ·simpa using ih
theorem look_last (key : Ky) : ∀ L : List Bd, (look L key).map (·.bi) = (lastI ((L.map (·.bi)).reverse) key L.length).bind (fun j => ((L.map (·.bi)).reverse)[j]?)
 | [] => rfl
 | x :: r => by
  have ih := look_last key r
  simp only [look, List.find?_cons, List.map_cons, List.reverse_cons, List.length_cons, lastI] at ih ⊢
  have hn : (((r.map (·.bi)).reverse ++ [x.bi])[r.length]?) = some x.bi := by
   rw [List.getElem?_append_right (by simp)]; simp
  rw [hn]
  by_cases hx : x.k = key
  ·simp only [hx, decide_true, Option.map_some, if_true, Option.bind_some]
   rw [hn]
  ·simp only [hx, decide_false, Option.map_some, Option.some.injEq, if_false]
   rw [lastI_prefix _ _ _ _ (by simp)]
   rw [ih]
   cases hc : lastI ((r.map (·.bi)).reverse) key r.length with
   | none => rfl
   | some j =>
    have hj := (lastI_some hc).1
    simp only [Option.bind_some]
    rw [List.getElem?_append_left (by simpa using hj)]
theorem lastN_rep {w : World} {l : List Bn} {bs : List Bi} (h : RepL w l bs) (key : Ky) : ∀ k, lastN l key k = lastI bs key k := by
 have hk : ∀ k : Nat, ((l.map bnBi)[k]?.map (·.k)) = (bs[k]?.map (·.k)) := fun k => by
  cases hl : l[k]? with
  | none =>
   have h1 : l.length ≤ k := List.getElem?_eq_none_iff.1 hl
   rw [List.getElem?_map, hl, List.getElem?_eq_none (by rw [← h.len]; exact h1)]; rfl
  | some x =>
   obtain ⟨b, hb, hr⟩ := h.get hl
   rw [List.getElem?_map, hl, hb]
   simp [bnBi, ((repB_iff _ _ _).1 hr).1]
 intro k
 unfold lastN
 induction k with
 | zero => rfl
 | succ k ih => simp only [lastI, hk k, ih]
theorem visTo_rep {w : World} {l : List Bn} {bs : List Bi} (h : RepL w l bs) : ∀ k, k ≤ l.length → RepL w (visToN l k) (visTo bs k)
 | 0, _ => by simp only [visToN, visTo, RepL]
 | k + 1, hk => by
  have ih := visTo_rep h k (by omega)
  obtain ⟨x, hx⟩ : ∃ x, l[k]? = some x := ⟨_, List.getElem?_eq_getElem (by omega)⟩
  obtain ⟨b, hb, hr⟩ := h.get hx
  have he : lastN l x.h.k l.length = lastI bs b.k bs.length := by rw [lastN_rep h, ((repB_iff _ _ _).1 hr).1, h.len]
  by_cases hc : lastI bs b.k bs.length = some k
  ·rw [visToN_yes hx (he.trans hc), visTo_yes hb hc]
   exact ih.snoc hr
  ·rw [visToN_no hx (fun e => hc (he.symm.trans e)), visTo_no hb hc]
   exact ih
theorem vis_rep {w : World} {l : List Bn} {bs : List Bi} (h : RepL w l bs) : RepL w (visN l) (vis bs) := by
 unfold visN vis
 rw [← h.len]
 exact visTo_rep h l.length (Nat.le_refl _)
theorem visTo_has {l : List Bi} {b : Bi} {j : Nat} (hb : l[j]? = some b) (hl : lastI l b.k l.length = some j) : ∀ k, j < k → k ≤ l.length → b ∈ visTo l k
 | 0, h, _ => by omega
 | k + 1, h, hk => by
  by_cases hj : j = k
  ·subst hj
   rw [visTo_yes hb hl]; simp
  ·have := visTo_has hb hl k (by omega) (by omega)
   simp only [visTo, List.mem_append]
   exact .inl this
theorem look_in_vis {L : List Bd} {key : Ky} {y : Bd} (h : look L key = some y) : y.bi ∈ vis ((L.map (·.bi)).reverse) ∧ y.k = key := by
 have hk := (look_some h).2
 have hl := look_last key L
 rw [h] at hl
 simp only [Option.map_some] at hl
 cases hc : lastI ((L.map (·.bi)).reverse) key L.length with
 | none => rw [hc] at hl; cases hl
 | some j =>
  rw [hc] at hl
  simp only [Option.bind_some] at hl
  have hj := (lastI_some hc).1
  refine ⟨visTo_has (j := j) hl.symm ?_ _ (by simpa using hj) (by simp), hk⟩
  have : y.bi.k = key := hk
  rw [this]; simpa using hc
theorem lk_det {w : World} : ∀ {l m : List Bd}, Lk w l → Lk w m → top l = top m → l.map (·.bi) = m.map (·.bi)
 | [], [], _, _, _ => rfl
 | [], _ :: _, _, _, h => by simp [top, at0] at h
 | _ :: _, [], _, _, h => by simp [top, at0] at h
 | a :: r, b :: s, hl, hm, h => by
  have hab : a.lk = b.lk := by simpa [top, at0] using h
  obtain ⟨c0, c1, c2, c3, c4, c5, c6⟩ := hl.1.out
  obtain ⟨d0, d1, d2, d3, d4, d5, d6⟩ := hm.1.out
  rw [hab] at c0 c1 c2 c3 c4 c5 c6
  rw [c0] at d0; rw [c1] at d1; rw [c2] at d2; rw [c3] at d3; rw [c4] at d4; rw [c5] at d5; rw [c6] at d6
  simp only [Option.some.injEq, Value.int.injEq, Value.string.injEq, Value.pointer.injEq, true_and] at d0 d1 d2 d3 d4 d5 d6
  have hbi : a.bi = b.bi := by
   obtain ⟨⟨⟨a1, a2⟩, a3, a4, a5, a6⟩, _⟩ := a
   obtain ⟨⟨⟨b1, b2⟩, b3, b4, b5, b6⟩, _⟩ := b
   simp_all
  simp only [List.map_cons, hbi, List.cons.injEq, true_and]
  exact lk_det hl.2 hm.2 d6
theorem env_top {w : World} {p : Option Addr} {l m : List Bd} (h : EnvAt w p l) (g : EnvAt w p m) : top l = top m := by
 rcases h with ⟨hp, rfl⟩ | ⟨a, t, hp, hl, hr⟩ <;> rcases g with ⟨gp, rfl⟩ | ⟨b, u, gp, gl, gr⟩
 ·rfl
 ·rw [hp] at gp; simp [at0] at gp
 ·rw [gp] at hp; simp [at0] at hp
 ·rw [hp] at gp
  have hab : a = b := by simpa [at0] using gp
  subst hab
  have h1 := hr.c0
  rw [gr.c0] at h1
  simpa using h1.symm
theorem env_det {w : World} {p : Option Addr} {l m : List Bd} (h : EnvAt w p l) (g : EnvAt w p m) : l.map (·.bi) = m.map (·.bi) := lk_det h.lk g.lk (env_top h g)

/-- What a list binds a key to: the last binding that has it. -/
def fndN (y : List Bn) (k : Ky) : Option Bn := (lastN y k y.length).bind (fun j => y[j]?)
def Bears (w : World) : Option Bn → Option Bi → Prop
 | none, none => True
 | some x, some b => RepB w x b
 | _, _ => False
theorem look_rep {w : World} {L : List Bd} {y : List Bn} (h : RepL w y ((L.map (·.bi)).reverse)) (k : Ky) : Bears w (fndN y k) ((look L k).map (·.bi)) := by
 rw [look_last, show L.length = y.length by rw [h.len]; simp]
 unfold fndN
 rw [lastN_rep h]
 cases hl : lastI ((L.map (·.bi)).reverse) k y.length with
 | none => trivial
 | some j =>
  simp only [Option.bind_some]
  obtain ⟨hj, b, hb, hk⟩ := lastI_some hl
  obtain ⟨x, hx⟩ : ∃ x, y[j]? = some x := ⟨_, List.getElem?_eq_getElem hj⟩
  obtain ⟨b', hb', hr⟩ := h.get hx
  rw [hx, hb']
  exact hr
theorem fndN_key {y : List Bn} {k : Ky} {x : Bn} (h : fndN y k = some x) : x.h.k = k ∧ x ∈ y := by
 unfold fndN at h
 cases hl : lastN y k y.length with
 | none => rw [hl] at h; cases h
 | some j =>
  rw [hl] at h
  simp only [Option.bind_some] at h
  refine ⟨?_, List.mem_of_getElem? h⟩
  obtain ⟨hj, b, hb, hk⟩ := lastI_some hl
  rw [List.getElem?_map, h] at hb
  simp only [Option.map_some, Option.some.injEq] at hb
  rw [← hk, ← hb]; rfl
end Go.Proofs.Ytagkpcnedccaiaa

namespace Go.Proofs.Ytagkpcnedccaiaa
open Go.RowKit
set_option maxRecDepth 20000
set_option linter.unusedVariables false
set_option linter.unusedSimpArgs false

/-- The link of two bindings themselves. -/
def ownL (a b : Bn) : List (Int × Int) := if a.h.dc = b.h.dc then [] else [(a.h.dc, b.h.dc)]
/-- A match with what rec says of parts. -/
def mtL (rec : List Bn → List Bn → Except Ky (List (Int × Int))) (y : List Bn) : List Bn → Except Ky (List (Int × Int))
 | [] => .ok []
 | a :: r => match fndN y a.h.k with
  | none => .error a.h.k
  | some b => match (if a.h.k.1 = 4 then rec a.ps b.ps else .ok []) with
   | .error k => .error k
   | .ok m => match mtL rec y r with
    | .error k => .error k
    | .ok t => .ok (ownL a b ++ m ++ t)
def mtF : Nat → List Bn → List Bn → Except Ky (List (Int × Int))
 | 0, _, _ => .ok []
 | f + 1, x, y => mtL (mtF f) y (visN x)
def mt (x y : List Bn) : Except Ky (List (Int × Int)) := mtF (sizes x + 1) x y
theorem size_ps {a : Bn} {x : List Bn} (h : a ∈ x) : sizes a.ps < sizes x := by
 have h1 := size_mem h
 have h2 := a.size_eq
 omega
theorem size_pv {a : Bn} {x : List Bn} (h : a ∈ visN x) : sizes a.ps < sizes x := size_ps (visToN_mem _ _ _ h)
theorem mtL_eq {r s : List Bn → List Bn → Except Ky (List (Int × Int))} {y z : List Bn} : ∀ {u v : List Bn}, u.length = v.length →
  (∀ (i : Nat) (a b : Bn), u[i]? = some a → v[i]? = some b → a.h.k = b.h.k ∧ a.h.dc = b.h.dc ∧ (∀ c d, fndN y a.h.k = some c → fndN z a.h.k = some d → r a.ps c.ps = s b.ps d.ps) ∧
   ((fndN y a.h.k = none ∧ fndN z a.h.k = none) ∨ ∃ c d, fndN y a.h.k = some c ∧ fndN z a.h.k = some d ∧ c.h.dc = d.h.dc)) → mtL r y u = mtL s z v
 | [], [], _, _ => rfl
 | [], _ :: _, h, _ => by simp at h
 | _ :: _, [], h, _ => by simp at h
 | a :: u, b :: v, h, hk => by
  obtain ⟨h1, h2, h3, h4⟩ := hk 0 a b rfl rfl
  have ih := mtL_eq (r := r) (s := s) (y := y) (z := z) (u := u) (v := v) (by simpa using h) (fun i a b ha hb => hk (i + 1) a b (by simpa using ha) (by simpa using hb))
  simp only [mtL]
  rw [← h1, ih]
  rcases h4 with ⟨h5, h6⟩ | ⟨c, d, h5, h6, h7⟩
  ·rw [h5, h6]
  ·rw [h5, h6]
   simp only
   rw [h3 c d h5 h6, show ownL a c = ownL b d by unfold ownL; rw [h2, h7]]
theorem mtF_more : ∀ (m : Nat) (x : List Bn), sizes x ≤ m → ∀ (f g : Nat) (y : List Bn), sizes x < f → sizes x < g → mtF f x y = mtF g x y := by
 intro m
 induction m with
 | zero =>
  intro x hx f g y hf hg
  have : x = [] := by
   cases x with
   | nil => rfl
   | cons a r => have := sizes_len (a :: r); simp at this; omega
  subst this
  cases f with
  | zero => omega
  | succ f => cases g with
   | zero => omega
   | succ g => rfl
 | succ m ih =>
  intro x hx f g y hf hg
  cases f with
  | zero => omega
  | succ f => cases g with
   | zero => omega
   | succ g =>
    simp only [mtF]
    refine mtL_eq rfl fun i a b ha hb => ?_
    rw [ha] at hb; obtain rfl := Option.some.inj hb
    have hp := size_pv (List.mem_of_getElem? ha)
    refine ⟨rfl, rfl, fun c d hc hd => ?_, ?_⟩
    ·rw [hc] at hd; obtain rfl := Option.some.inj hd
     exact ih a.ps (by omega) f g c.ps (by omega) (by omega)
    ·cases hc : fndN y a.h.k with
     | none => exact .inl ⟨rfl, rfl⟩
     | some c => exact .inr ⟨c, c, rfl, rfl, rfl⟩
theorem mt_eq (x y : List Bn) : mt x y = mtL mt y (visN x) := by
 unfold mt
 simp only [mtF]
 refine mtL_eq rfl fun i a b ha hb => ?_
 rw [ha] at hb; obtain rfl := Option.some.inj hb
 have hp := size_pv (List.mem_of_getElem? ha)
 refine ⟨rfl, rfl, fun c d hc hd => ?_, ?_⟩
 ·rw [hc] at hd; obtain rfl := Option.some.inj hd
  exact mtF_more _ a.ps (Nat.le_refl _) _ (sizes a.ps + 1) c.ps hp (by omega)
 ·cases hc : fndN y a.h.k with
  | none => exact .inl ⟨rfl, rfl⟩
  | some c => exact .inr ⟨c, c, rfl, rfl, rfl⟩

/-- What a visible binding's key is bound to is that binding. -/
theorem visToN_has (l : List Bn) : ∀ k a, a ∈ visToN l k → ∃ i, l[i]? = some a ∧ lastN l a.h.k l.length = some i
 | 0, a, h => by simp [visToN] at h
 | k + 1, a, h => by
  simp only [visToN, List.mem_append] at h
  rcases h with h | h
  ·exact visToN_has l k a h
  ·split at h
   ·rename_i y hy
    split at h
    ·rename_i hl
     simp only [List.mem_singleton] at h; subst h
     exact ⟨k, hy, hl⟩
    ·cases h
   ·cases h
theorem fndN_vis {x : List Bn} {a : Bn} (h : a ∈ visN x) : fndN x a.h.k = some a := by
 obtain ⟨i, h1, h2⟩ := visToN_has x _ a h
 unfold fndN
 rw [h2]; exact h1
theorem visToN_mk {l : List Bn} {a : Bn} {j : Nat} (ha : l[j]? = some a) (hl : lastN l a.h.k l.length = some j) : ∀ k, j < k → a ∈ visToN l k
 | 0, h => by omega
 | k + 1, h => by
  by_cases hj : j = k
  ·subst hj
   rw [visToN_yes ha hl]; simp
  ·have := visToN_mk ha hl k (by omega)
   simp only [visToN, List.mem_append]
   exact .inl this
theorem vis_fndN {x : List Bn} {a : Bn} {k : Ky} (h : fndN x k = some a) : a ∈ visN x := by
 have hk := (fndN_key h).1
 unfold fndN at h
 cases hl : lastN x k x.length with
 | none => rw [hl] at h; cases h
 | some j =>
  rw [hl] at h
  simp only [Option.bind_some] at h
  exact visToN_mk h (by rw [hk]; exact hl) _ (List.getElem?_eq_some_iff.1 h).1

/-- All is had, as a statement. -/
def Has : Nat → List Bn → List Bn → Prop
 | 0, _, _ => True
 | f + 1, x, y => ∀ a ∈ visN x, ∃ b, fndN y a.h.k = some b ∧ (a.h.k.1 = 4 → Has f a.ps b.ps)
theorem Has.self : ∀ (f : Nat) (x : List Bn), Has f x x
 | 0, _ => trivial
 | f + 1, x => fun a ha => ⟨a, fndN_vis ha, fun _ => Has.self f _⟩
theorem Has.on : ∀ (f : Nat) (x y z : List Bn), Has f x y → Has f y z → Has f x z
 | 0, _, _, _, _, _ => trivial
 | f + 1, x, y, z, h, g => fun a ha => by
  obtain ⟨b, hb, hp⟩ := h a ha
  obtain ⟨c, hc, hq⟩ := g b (vis_fndN hb)
  have hk := (fndN_key hb).1
  rw [hk] at hc hq
  exact ⟨c, hc, fun h4 => Has.on f _ _ _ (hp h4) (hq h4)⟩
def isOk {α β : Type} : Except α β → Bool
 | .ok _ => true
 | .error _ => false
theorem mtL_ok {rec : List Bn → List Bn → Except Ky (List (Int × Int))} {y : List Bn} : ∀ (u : List Bn), isOk (mtL rec y u) = true ↔ ∀ a ∈ u, ∃ b, fndN y a.h.k = some b ∧ (a.h.k.1 = 4 → isOk (rec a.ps b.ps) = true)
 | [] => by simp [mtL, isOk]
 | a :: r => by
  have ih := mtL_ok (rec := rec) (y := y) r
  simp only [mtL, List.mem_cons, forall_eq_or_imp]
  cases hf : fndN y a.h.k with
  | none => simp [isOk]
  | some b =>
   simp only [Option.some.injEq, exists_eq_left']
   rw [← ih]
   by_cases h4 : a.h.k.1 = 4
   ·rw [if_pos h4]
    simp only [h4, true_implies]
    cases rec a.ps b.ps with
    | error k => simp [isOk]
    | ok m => cases mtL rec y r <;> simp [isOk]
   ·rw [if_neg h4]
    simp only [h4, false_implies, true_and]
    cases mtL rec y r <;> simp [isOk]
theorem mtF_ok : ∀ (f : Nat) (x y : List Bn), isOk (mtF f x y) = true ↔ Has f x y
 | 0, _, _ => by simp [mtF, isOk, Has]
 | f + 1, x, y => by
  simp only [mtF, Has]
  rw [mtL_ok]
  constructor
  ·intro h a ha
   obtain ⟨b, hb, hp⟩ := h a ha
   exact ⟨b, hb, fun h4 => (mtF_ok f _ _).1 (hp h4)⟩
  ·intro h a ha
   obtain ⟨b, hb, hp⟩ := h a ha
   exact ⟨b, hb, fun h4 => (mtF_ok f _ _).2 (hp h4)⟩
theorem mt_ok_has {x y : List Bn} (f : Nat) (hf : sizes x < f) : isOk (mt x y) = true ↔ Has f x y := by
 unfold mt
 rw [mtF_more _ x (Nat.le_refl _) _ f y (by omega) hf, mtF_ok]
theorem mt_on {x y z : List Bn} (h : isOk (mt x y) = true) (g : isOk (mt y z) = true) : isOk (mt x z) = true := by
 have hf : sizes x < sizes x + sizes y + 1 := by omega
 have hg : sizes y < sizes x + sizes y + 1 := by omega
 exact (mt_ok_has _ hf).2 (Has.on _ _ _ _ ((mt_ok_has _ hf).1 h) ((mt_ok_has _ hg).1 g))
theorem mtL_self {rec : List Bn → List Bn → Except Ky (List (Int × Int))} {y : List Bn} : ∀ (u : List Bn), (∀ a ∈ u, fndN y a.h.k = some a ∧ rec a.ps a.ps = .ok []) → mtL rec y u = .ok []
 | [], _ => rfl
 | a :: r, h => by
  obtain ⟨h1, h2⟩ := h a (by simp)
  simp only [mtL]
  rw [h1]
  simp only [h2]
  rw [mtL_self r fun b hb => h b (by simp [hb])]
  by_cases h4 : a.h.k.1 = 4 <;> simp [h4, ownL]
theorem mtF_self : ∀ (f : Nat) (x : List Bn), mtF f x x = .ok []
 | 0, _ => rfl
 | f + 1, x => mtL_self _ fun a ha => ⟨fndN_vis ha, mtF_self f _⟩
theorem mt_self (x : List Bn) : mt x x = .ok [] := mtF_self _ x
theorem mtL_len {rec : List Bn → List Bn → Except Ky (List (Int × Int))} {y : List Bn} : ∀ (u : List Bn) (t : List (Int × Int)), (∀ a ∈ u, ∀ z m, rec a.ps z = .ok m → m.length ≤ sizes a.ps) → mtL rec y u = .ok t → t.length ≤ sizes u
 | [], t, _, h => by simp only [mtL, Except.ok.injEq] at h; rw [← h]; simp
 | a :: r, t, hr, h => by
  simp only [mtL] at h
  cases hf : fndN y a.h.k with
  | none => rw [hf] at h; cases h
  | some b =>
   rw [hf] at h
   simp only at h
   cases hm : (if a.h.k.1 = 4 then rec a.ps b.ps else .ok []) with
   | error k => rw [hm] at h; cases h
   | ok m =>
    rw [hm] at h
    simp only at h
    have hml : m.length ≤ sizes a.ps := by
     by_cases h4 : a.h.k.1 = 4
     ·rw [if_pos h4] at hm; exact hr a (by simp) _ _ hm
     ·rw [if_neg h4] at hm; simp only [Except.ok.injEq] at hm; rw [← hm]; simp
    cases ht : mtL rec y r with
    | error k => rw [ht] at h; cases h
    | ok s =>
     rw [ht] at h
     simp only [Except.ok.injEq] at h
     have ih := mtL_len r s (fun b hb => hr b (by simp [hb])) ht
     have h2 := a.size_eq
     have h3 : (ownL a b).length ≤ 1 := by unfold ownL; split <;> simp
     rw [← h]
     simp only [List.length_append, sizes]
     omega
theorem sizes_visToN (l : List Bn) : ∀ k, sizes (visToN l k) ≤ sizes (l.take k)
 | 0 => by simp [visToN, sizes]
 | k + 1 => by
  have ih := sizes_visToN l k
  have happ : ∀ a b : List Bn, sizes (a ++ b) = sizes a + sizes b := fun a b => by
   induction a with
   | nil => simp [sizes]
   | cons x r ih => simp only [List.cons_append, sizes, ih]; omega
  simp only [visToN]
  cases hx : l[k]? with
  | none => rw [List.take_of_length_le (Nat.le_succ_of_le (List.getElem?_eq_none_iff.1 hx))]; rw [List.take_of_length_le (List.getElem?_eq_none_iff.1 hx)] at ih; simpa using ih
  | some x =>
   rw [List.take_add_one, hx, happ, happ]
   simp only [Option.toList]
   split
   ·simp only [sizes]; omega
   ·simp only [sizes]; omega
theorem sizes_visN (l : List Bn) : sizes (visN l) ≤ sizes l := by
 have := sizes_visToN l l.length
 rw [List.take_length] at this; exact this
theorem mtF_len : ∀ (f : Nat) (x y : List Bn) (t : List (Int × Int)), mtF f x y = .ok t → t.length ≤ sizes x
 | 0, _, _, t, h => by simp only [mtF, Except.ok.injEq] at h; rw [← h]; simp
 | f + 1, x, y, t, h => Nat.le_trans (mtL_len (visN x) t (fun a _ z m hm => mtF_len f _ _ _ hm) h) (sizes_visN x)
theorem mt_len {x y : List Bn} {t : List (Int × Int)} (h : mt x y = .ok t) : t.length ≤ sizes x := mtF_len _ _ _ _ h
end Go.Proofs.Ytagkpcnedccaiaa

namespace Go.Proofs.Ytagkpcnedccaiaa
open Go.RowKit
set_option maxRecDepth 20000
set_option linter.unusedVariables false
set_option linter.unusedSimpArgs false

/-- The same, as deep as f. -/
def smF : Nat → List Bn → List Bn → Prop
 | 0, _, _ => True
 | f + 1, x, y => (visN x).length = (visN y).length ∧ ∀ (i : Nat) (a b : Bn), (visN x)[i]? = some a → (visN y)[i]? = some b →
   a.h.k = b.h.k ∧ a.h.dc = b.h.dc ∧ smF f a.ps b.ps ∧ smF f a.qs b.qs
def SM (x y : List Bn) : Prop := ∀ f, smF f x y
theorem sm_iff (x y : List Bn) : SM x y ↔ (visN x).length = (visN y).length ∧ ∀ (i : Nat) (a b : Bn), (visN x)[i]? = some a → (visN y)[i]? = some b →
  a.h.k = b.h.k ∧ a.h.dc = b.h.dc ∧ SM a.ps b.ps ∧ SM a.qs b.qs := by
 constructor
 ·intro h
  exact ⟨(h 1).1, fun i a b ha hb => ⟨((h 1).2 i a b ha hb).1, ((h 1).2 i a b ha hb).2.1, fun f => ((h (f + 1)).2 i a b ha hb).2.2.1, fun f => ((h (f + 1)).2 i a b ha hb).2.2.2⟩⟩
 ·rintro ⟨h1, h2⟩ f
  cases f with
  | zero => trivial
  | succ f => exact ⟨h1, fun i a b ha hb => ⟨(h2 i a b ha hb).1, (h2 i a b ha hb).2.1, (h2 i a b ha hb).2.2.1 f, (h2 i a b ha hb).2.2.2 f⟩⟩
theorem smF_refl : ∀ (f : Nat) (x : List Bn), smF f x x
 | 0, _ => trivial
 | f + 1, x => ⟨rfl, fun i a b ha hb => by
   have : a = b := by rw [ha] at hb; exact Option.some.inj hb
   subst this
   exact ⟨rfl, rfl, smF_refl f _, smF_refl f _⟩⟩
theorem smF_symm : ∀ (f : Nat) (x y : List Bn), smF f x y → smF f y x
 | 0, _, _, _ => trivial
 | f + 1, x, y, h => ⟨h.1.symm, fun i a b ha hb => by
   obtain ⟨h1, h2, h3, h4⟩ := h.2 i b a hb ha
   exact ⟨h1.symm, h2.symm, smF_symm f _ _ h3, smF_symm f _ _ h4⟩⟩
theorem smF_trans : ∀ (f : Nat) (x y z : List Bn), smF f x y → smF f y z → smF f x z
 | 0, _, _, _, _, _ => trivial
 | f + 1, x, y, z, h, g => ⟨h.1.trans g.1, fun i a b ha hb => by
   have hi : i < (visN y).length := by rw [← h.1]; exact (List.getElem?_eq_some_iff.1 ha).1
   obtain ⟨m, hm⟩ : ∃ m, (visN y)[i]? = some m := ⟨_, List.getElem?_eq_getElem hi⟩
   obtain ⟨h1, h2, h3, h4⟩ := h.2 i a m ha hm
   obtain ⟨g1, g2, g3, g4⟩ := g.2 i m b hm hb
   exact ⟨h1.trans g1, h2.trans g2, smF_trans f _ _ _ h3 g3, smF_trans f _ _ _ h4 g4⟩⟩
theorem SM.refl (x : List Bn) : SM x x := fun f => smF_refl f x
theorem SM.symm {x y : List Bn} (h : SM x y) : SM y x := fun f => smF_symm f _ _ (h f)
theorem SM.trans {x y z : List Bn} (h : SM x y) (g : SM y z) : SM x z := fun f => smF_trans f _ _ _ (h f) (g f)

theorem rep_det {w : World} : ∀ (f : Nat) (x y : List Bn) (bs : List Bi), RepL w x bs → RepL w y bs → smF f x y
 | 0, _, _, _, _, _ => trivial
 | f + 1, x, y, bs, hx, hy => by
  have vx := vis_rep hx
  have vy := vis_rep hy
  refine ⟨vx.len.trans vy.len.symm, fun i a b ha hb => ?_⟩
  obtain ⟨ba, hba, ra⟩ := vx.get ha
  obtain ⟨bb, hbb, rb⟩ := vy.get hb
  rw [hba] at hbb
  obtain rfl := Option.some.inj hbb
  obtain ⟨a1, a2, a3, ⟨L, a4, a5⟩, ⟨M, a6, a7⟩⟩ := (repB_iff _ _ _).1 ra
  obtain ⟨b1, b2, b3, ⟨L', b4, b5⟩, ⟨M', b6, b7⟩⟩ := (repB_iff _ _ _).1 rb
  rw [env_det b4 a4] at b5
  rw [env_det b6 a6] at b7
  exact ⟨a1.symm.trans b1, a2.symm.trans b2, rep_det f _ _ _ a5 b5, rep_det f _ _ _ a7 b7⟩
theorem is_det {w : World} {p : Option Addr} {x y : List Bn} (h : EnvIs w p x) (g : EnvIs w p y) : SM x y := by
 obtain ⟨L, h1, h2⟩ := h
 obtain ⟨M, g1, g2⟩ := g
 rw [env_det g1 h1] at g2
 exact fun f => rep_det f _ _ _ h2 g2

/-- Bindings with the same keys in the same order, declared by the same occurrences. -/
def Alb (l m : List Bi) : Prop := l.length = m.length ∧ ∀ (i : Nat) (a b : Bi), l[i]? = some a → m[i]? = some b → a.k = b.k ∧ a.dc = b.dc
/-- What two environments say is the same: whatever lists they are of. -/
def SMp (w : World) (p q : Option Addr) : Prop := ∀ x y, EnvIs w p x → EnvIs w q y → SM x y
theorem SMp.of {w : World} {p q : Option Addr} {x y : List Bn} (hx : EnvIs w p x) (hy : EnvIs w q y) (h : SM x y) : SMp w p q := fun x' y' hx' hy' => (is_det hx' hx).trans (h.trans (is_det hy hy'))
theorem SMp.self (w : World) (p : Option Addr) : SMp w p p := fun x y hx hy => is_det hx hy
theorem SM.top {w : World} {x y : List Bn} {bs cs : List Bi} (hx : RepL w x bs) (hy : RepL w y cs) (h : SM x y) :
  Alb (vis bs) (vis cs) ∧ ∀ (i : Nat) (a b : Bi), (vis bs)[i]? = some a → (vis cs)[i]? = some b → SMp w a.pa b.pa ∧ SMp w a.pm b.pm := by
 have vx := vis_rep hx
 have vy := vis_rep hy
 obtain ⟨h1, h2⟩ := (sm_iff x y).1 h
 have key : ∀ (i : Nat) (a b : Bi), (vis bs)[i]? = some a → (vis cs)[i]? = some b → (a.k = b.k ∧ a.dc = b.dc) ∧ SMp w a.pa b.pa ∧ SMp w a.pm b.pm := fun i a b ha hb => by
  obtain ⟨x', hx'⟩ : ∃ x', (visN x)[i]? = some x' := ⟨_, List.getElem?_eq_getElem (by rw [vx.len]; exact (List.getElem?_eq_some_iff.1 ha).1)⟩
  obtain ⟨y', hy'⟩ : ∃ y', (visN y)[i]? = some y' := ⟨_, List.getElem?_eq_getElem (by rw [vy.len]; exact (List.getElem?_eq_some_iff.1 hb).1)⟩
  obtain ⟨a', ha', ra⟩ := vx.get hx'
  obtain ⟨b', hb', rb⟩ := vy.get hy'
  rw [ha] at ha'; obtain rfl := Option.some.inj ha'
  rw [hb] at hb'; obtain rfl := Option.some.inj hb'
  obtain ⟨a1, a2, a3, a4, a5⟩ := (repB_iff _ _ _).1 ra
  obtain ⟨b1, b2, b3, b4, b5⟩ := (repB_iff _ _ _).1 rb
  obtain ⟨e1, e2, e3, e4⟩ := h2 i x' y' hx' hy'
  exact ⟨⟨by rw [a1, b1, e1], by rw [a2, b2, e2]⟩, SMp.of a4 b4 e3, SMp.of a5 b5 e4⟩
 exact ⟨⟨by rw [← vx.len, ← vy.len, h1], fun i a b ha hb => (key i a b ha hb).1⟩, fun i a b ha hb => (key i a b ha hb).2⟩
theorem SM.mk {w : World} {x y : List Bn} {bs cs : List Bi} (hx : RepL w x bs) (hy : RepL w y cs) (h : Alb (vis bs) (vis cs))
  (hk : ∀ (i : Nat) (a b : Bi), (vis bs)[i]? = some a → (vis cs)[i]? = some b → SMp w a.pa b.pa ∧ SMp w a.pm b.pm) : SM x y := by
 have vx := vis_rep hx
 have vy := vis_rep hy
 refine (sm_iff x y).2 ⟨by rw [vx.len, vy.len, h.1], fun i a b ha hb => ?_⟩
 obtain ⟨a', ha', ra⟩ := vx.get ha
 obtain ⟨b', hb', rb⟩ := vy.get hb
 obtain ⟨a1, a2, a3, a4, a5⟩ := (repB_iff _ _ _).1 ra
 obtain ⟨b1, b2, b3, b4, b5⟩ := (repB_iff _ _ _).1 rb
 obtain ⟨e1, e2⟩ := h.2 i a' b' ha' hb'
 obtain ⟨e3, e4⟩ := hk i a' b' ha' hb'
 exact ⟨by rw [← a1, ← b1, e1], by rw [← a2, ← b2, e2], e3 _ _ a4 b4, e4 _ _ a5 b5⟩
end Go.Proofs.Ytagkpcnedccaiaa
