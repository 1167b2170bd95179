/-
  The document's Visible, and rows of its bindings of a call's own.
-/
import Derived.Test.YtpgmlagkpigdjaaVsb
namespace Go.Proofs.Ytpgmlagkpigdjaa
open Go.RowKit
set_option maxRecDepth 20000
set_option linter.unusedVariables false
set_option linter.unusedSimpArgs false

def Bh.cells (h : Bh) : List Value := [.int .i64 h.k.1, .string h.k.2, .int .i64 h.dc, .int .i64 h.via, .slice h.pp h.pn h.pc, .slice h.qp h.qn h.qc]
def hcells (l : List Bh) : List Value := l.flatMap Bh.cells
theorem hcells_append (a b : List Bh) : hcells (a ++ b) = hcells a ++ hcells b := by simp [hcells]
theorem hcells_length (l : List Bh) : (hcells l).length = l.length * 6 := by
  induction l with
  | nil => rfl
  | cons v r ih => simp only [hcells, List.flatMap_cons, List.length_append] at *; rw [ih]; simp [Bh.cells]; omega
theorem hcells_get (l : List Bh) (j : Nat) (v : Bh) (h : l[j]? = some v) (r : Nat) (hr : r < 6) : (hcells l)[j * 6 + r]? = v.cells[r]? := by
  induction l generalizing j with
  | nil => simp at h
  | cons x t ih =>
    have hx : x.cells.length = 6 := rfl
    simp only [hcells, List.flatMap_cons] at *
    cases j with
    | zero =>
      simp only [List.getElem?_cons_zero, Option.some.injEq] at h
      subst h
      rw [Nat.zero_mul, Nat.zero_add, List.getElem?_append_left (by omega)]
    | succ j =>
      simp only [List.getElem?_cons_succ] at h
      rw [List.getElem?_append_right (by omega), show (j + 1) * 6 + r - x.cells.length = j * 6 + r by omega]
      exact ih j h
def OwnN (w : World) (base : Nat) (v : Value) (l : List Bn) : Prop := w.ownsRow base 45 6 v l.length (hcells (l.map Bn.h))
theorem OwnN.step {w w' : World} {base : Nat} {v : Value} {l : List Bn} (h : OwnN w base v l) (hw : Below w.heap.size w w') : OwnN w' base v l := by
  obtain ⟨hl, h0 | ⟨g, c, cur, hv, hb, hg, hr⟩⟩ := h
  · exact ⟨hl, .inl h0⟩
  · exact ⟨hl, .inr ⟨g, c, cur, hv, hb, heap_step hg hw, hr⟩⟩
theorem OwnN.base {w : World} {b b' : Nat} {v : Value} {l : List Bn} (h : OwnN w b v l) (hb : b' ≤ b) : OwnN w b' v l := by
  obtain ⟨hl, h0 | ⟨g, c, cur, hv, hg0, hg, hr⟩⟩ := h
  · exact ⟨hl, .inl h0⟩
  · exact ⟨hl, .inr ⟨g, c, cur, hv, Nat.le_trans hb hg0, hg, hr⟩⟩
theorem OwnN.slice {w : World} {base : Nat} {v : Value} {l : List Bn} (h : OwnN w base v l) : (v = .slice none 0 0 ∧ l = []) ∨ ∃ g c, v = .slice (some ⟨g, 0, none⟩) l.length c ∧ base ≤ g ∧ g < w.heap.size ∧ l.length ≤ c := by
  obtain ⟨hl, ⟨h0, h1⟩ | ⟨g, c, cur, hv, hb, hg, hc, _⟩⟩ := h
  · exact .inl ⟨h0, List.eq_nil_of_length_eq_zero h1⟩
  · exact .inr ⟨g, c, hv, hb, heap_lt hg, hc⟩
theorem OwnN.at_ {w : World} {base g c : Nat} {l : List Bn} (h : OwnN w base (.slice (some ⟨g, 0, none⟩) l.length c) l) (i : Nat) (x : Bn) (hi : l[i]? = some x) : BnAt w g (0 + i * 6) x.h := by
  have hl : i < l.length := (List.getElem?_eq_some_iff.1 hi).1
  have h' : w.ownsRow base 45 6 (.slice (some ⟨g, 0, none⟩) l.length c) l.length (hcells (l.map Bn.h)) := h
  have hx : (l.map Bn.h)[i]? = some x.h := by simp [hi]
  have key : ∀ r v, r < 6 → x.h.cells[r]? = some v → w.cell? ⟨g, i * 6 + r, none⟩ = some v := fun r v hr hv => by
    rw [h'.cellAt (i * 6 + r) (by omega), hcells_get (l.map Bn.h) i x.h hx r hr, hv]
  rw [Nat.zero_add]
  exact ⟨key 0 _ (by omega) rfl, key 1 _ (by omega) rfl, key 2 _ (by omega) rfl, key 3 _ (by omega) rfl, key 4 _ (by omega) rfl, key 5 _ (by omega) rfl⟩
theorem OwnN.bn {w : World} {base : Nat} {v : Value} {l : List Bn} (h : OwnN w base v l) : ∃ q n c, v = .slice q n c ∧ BnIn w q n c l := by
  rcases h.slice with ⟨rfl, rfl⟩ | ⟨g, c, rfl, hb, hg, hc⟩
  · exact ⟨none, 0, 0, rfl, rfl, .inl rfl⟩
  · exact ⟨some ⟨g, 0, none⟩, _, c, rfl, rfl, .inr ⟨g, 0, rfl, hc, hg, fun i x hi => h.at_ i x hi⟩⟩
theorem newsN (w : World) (h : Bh) : ∀ j u, h.cells[j]? = some u → (w.alloc (.cells #[.int .i64 h.k.1, .string h.k.2, .int .i64 h.dc, .int .i64 h.via, .slice h.pp h.pn h.pc, .slice h.qp h.qn h.qc] 45)).cell? ((⟨w.heap.size, 0, none⟩ : Addr).add j) = some u := fun j u hh => by
  rw [addr_add, cellH (heap_new w _) j, ← hh]
  match j with
  | 0 => rfl
  | 1 => rfl
  | 2 => rfl
  | 3 => rfl
  | 4 => rfl
  | 5 => rfl
  | j + 6 => simp [Bh.cells]
theorem oneN (h : Bh) : ∀ u ∈ h.cells, u.oneCell' = true := fun u hu => by
  simp only [Bh.cells, List.mem_cons, List.not_mem_nil, or_false] at hu
  rcases hu with rfl | rfl | rfl | rfl | rfl | rfl <;> rfl
theorem ownN_snoc {w : World} {base : Nat} {v : Value} {l : List Bn} {x : Bn} (h : w.ownsRow base 45 6 v (l.length + 1) (hcells (l.map Bn.h) ++ x.h.cells)) : OwnN w base v (l ++ [x]) := by
  unfold OwnN
  rw [List.map_append, hcells_append, List.length_append]
  simpa [hcells] using h
/-- Of the first k bindings those to which names are bound. -/
def visToN (l : List Bn) : Nat → List Bn
  | 0 => []
  | k + 1 => visToN l k ++ (match l[k]? with | some x => if lastN l x.h.k l.length = some k then [x] else [] | none => [])
def visN (l : List Bn) : List Bn := visToN l l.length
theorem visToN_yes {l : List Bn} {k : Nat} {x : Bn} (h : l[k]? = some x) (hl : lastN l x.h.k l.length = some k) : visToN l (k + 1) = visToN l k ++ [x] := by
  simp only [visToN, h]; rw [if_pos hl]
theorem visToN_no {l : List Bn} {k : Nat} {x : Bn} (h : l[k]? = some x) (hl : ¬ lastN l x.h.k l.length = some k) : visToN l (k + 1) = visToN l k := by
  simp only [visToN, h]; rw [if_neg hl]; simp
theorem visToN_len (l : List Bn) : ∀ k, (visToN l k).length ≤ k
  | 0 => by simp [visToN]
  | k + 1 => by
    have := visToN_len l k
    simp only [visToN, List.length_append]
    split
    · split <;> simp <;> omega
    · simp; omega
theorem visToN_mem (l : List Bn) : ∀ k x, x ∈ visToN l k → x ∈ l
  | 0, x, h => by simp [visToN] at h
  | k + 1, x, h => by
    simp only [visToN, List.mem_append] at h
    rcases h with h | h
    · exact visToN_mem l k x h
    · split at h
      · rename_i y hy
        split at h
        · simp only [List.mem_singleton] at h; subst h; exact List.mem_of_getElem? hy
        · cases h
      · cases h
def VisPost (w : World) (l : List Bn) (e : Ending) (w' : World) : Prop := ∃ v, e = .returned v ∧ OwnN w' w.heap.size v l ∧ Below w.heap.size w w'
set_option maxHeartbeats 8000000 in
theorem visible_any (w : World) (p : Option Addr) (n c : Nat) (l : List Bn) (hb : BnIn w p n c l) (hn9 : n ≤ 900000) :
    Calls Try.prog 25 #[.slice p n c] w (VisPost w (visN l)) := by
  obtain ⟨i45, hi45, hy0, hy1, hy2⟩ : ∃ i45, Try.prog.info? 45 = some i45 ∧ i45.zero = some (.agg #[.int .i64 0, .string ByteArray.empty, .int .i64 0, .int .i64 0, .slice none 0 0, .slice none 0 0]) ∧ i45.size = 6 ∧ i45.bytes = 88 := by
    refine ⟨_, rfl, ?_, ?_, ?_⟩ <;> kernel_rfl
  have HB := Lib.hid hb
  have HN := Lib.hid hb.1
  clear hb
  go_enter Try.func25, Try.ntmps25
  go_wp2_with fail
  go_loopw [3, 4] (fun v i wr => ∃ k : Nat, k ≤ n ∧ i = .int .i64 k ∧ Hid (OwnN wr w.heap.size v (visToN l k)) ∧ Hid (Below w.heap.size w wr)) (fun _ i _ => n - (intOf i).toNat)
  case atStart => exact ⟨0, by omega, rfl, Lib.hid ⟨rfl, .inl ⟨rfl, rfl⟩⟩, Lib.hid (Below.refl _ _)⟩
  case round =>
    obtain ⟨k, hk, rfl, HO, HBW⟩ := hrel
    by_cases hlt : k < n
    · obtain ⟨hn1, h0' | ⟨gb, ob, rfl, hcb, hgb, hat⟩⟩ := HB.out
      · omega
      obtain ⟨y, hy⟩ : ∃ y, l[k]? = some y := ⟨_, List.getElem?_eq_getElem (by omega)⟩
      obtain ⟨v0, v1, v2, v3, v4, v5⟩ := (hat k y hy).step hgb HBW.out
      have hgb2 : gb < wr.heap.size := Nat.lt_of_lt_of_le hgb HBW.out.size
      have HF : Hid (∀ d, Calls Try.prog 37 #[.slice (some ⟨gb, ob, none⟩) n c, .int .i64 y.h.k.1, .string y.h.k.2] (wr.drewN d) fun e w' => e = .returned (.int .i64 (fiV (lastN l y.h.k l.length))) ∧ ∃ m, w' = wr.drewN m) := Lib.hid fun d => by
        refine (find37_any (wr.drewN d) _ n c l y.h.k (HB.out.step (below_drewN HBW.out d)) hn9).mono ?_
        rintro e w' ⟨h1, d', h2⟩
        exact ⟨h1, d + d', by rw [h2, World.drewN_drewN]⟩
      have r1 : (0 : Int) ≤ (k : Int) := by omega
      have r2 : (k : Int) < (n : Int) := by omega
      have HY := Lib.hid hy
      have hbz := HBW.out.size
      have hdec : lastN l y.h.k l.length = some k ∨ ¬ lastN l y.h.k l.length = some k := Decidable.em _
      have hf := HF.out
      generalize hh : y.h = h at *
      rcases hdec with hd | hd
      · have HV := Lib.hid (visToN_yes HY.out (by rw [hh]; exact hd))
        rw [hd] at hf
        simp only [fiV] at hf
        have hrow := HO.out
        unfold OwnN at hrow
        have hvl := visToN_len l k
        have hbx : (hcells ((visToN l k).map Bn.h)).length = (visToN l k).length * 6 := by rw [hcells_length, List.length_map]
        have HNW : Hid (∀ d, ∀ j u, h.cells[j]? = some u → ((wr.drewN d).alloc (.cells #[.int .i64 h.k.1, .string h.k.2, .int .i64 h.dc, .int .i64 h.via, .slice h.pp h.pn h.pc, .slice h.qp h.qn h.qc] 45)).cell? ((⟨wr.heap.size, 0, none⟩ : Addr).add j) = some u) := Lib.hid fun d => newsN (wr.drewN d) h
        have HRD : Hid (∀ d, (wr.drewN d).ownsRow w.heap.size 45 6 u3 (visToN l k).length (hcells ((visToN l k).map Bn.h))) := Lib.hid fun d => OwnN.step HO.out (below_dN wr d)
        have HHH := Lib.hid hh
        clear hat hy hn1 hd HF hh
        go_wp2_with fail
        go_quiet (first | (with_reducible exact hf _))
        go_wp2_with (first
          | (at_builtin; refine wpList_append_own _ rfl _ _ 22 rfl w.heap.size 45 i45 _ 6 88 Try.underlying22 hi45 hy0 hy1 hy2 rfl (by decide) _ _ _ rfl (World.ownsRow.alloc (HRD.out _) _) ⟨_, 0, none⟩ 1 1 h.cells rfl rfl (HNW.out _) (oneN h) (by unfold maxLen; omega) (by omega) (by simp; omega) ?_; intro v' w3 hown' hg3 hnil3; have HO' := Lib.hid hown'; have HG3 := Lib.hid (((below_drewN HBW.out _).alloc hbz _).grown hg3 (by simp; omega) (fun j hj => (World.ownsRow.lt hrow j hj).1)); clear hown' hg3 hnil3)
          | go_in)
        refine ⟨⟨k + 1, by omega, by go_num, Lib.hid ?_, HG3⟩, by simp [intOf]; omega⟩
        rw [HV.out]
        have := HO'.out
        rw [← HHH.out] at this
        exact ownN_snoc this
      · have HV := Lib.hid (visToN_no HY.out (by rw [hh]; exact hd))
        have hfi : ¬ fiV (lastN l h.k l.length) = (k : Nat) := by
          intro e
          cases hc : lastN l h.k l.length with
          | none => rw [hc] at e; simp [fiV] at e
          | some j => rw [hc] at e hd; simp only [fiV] at e; exact hd (congrArg some (by omega))
        have hfi2 : (fiV (lastN l h.k l.length) == (k : Int)) = false := by simpa using hfi
        generalize fiV (lastN l h.k l.length) = F at *
        clear hat hy hn1 hd HF hh hfi
        go_wp2_with fail
        go_quiet (first | (with_reducible exact hf _))
        go_wp2_with fail
        go_roundw
        case rel => exact ⟨k + 1, by omega, by go_num, Lib.hid (by rw [HV.out]; exact HO.out.step (below_dN wr _)), Lib.hid (below_drewN HBW.out _)⟩
        case measure => simp [intOf]; omega
    · have hkn : k = n := by omega
      have HF : Hid (OwnN wr w.heap.size u3 (visN l)) := Lib.hid (by have := HO.out; rw [hkn, HN.out] at this; exact this)
      clear hkn HO
      go_wp2_with fail
      go_ret
      exact ⟨_, rfl, HF.out, HBW.out⟩
end Go.Proofs.Ytpgmlagkpigdjaa
