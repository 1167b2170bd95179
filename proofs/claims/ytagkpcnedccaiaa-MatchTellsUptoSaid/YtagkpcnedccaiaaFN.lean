/-
  The keys that are bound (Keys), and rows of keys.; Which bindings of the document an environment bears; Made.
-/
import Derived.Test.YtagkpcnedccaiaaFM
import Derived.Test.YtagkpcnedccaiaaFB
namespace Go.Proofs.Ytagkpcnedccaiaa
open Go.RowKit
set_option maxRecDepth 20000
set_option linter.unusedVariables false
set_option linter.unusedSimpArgs false

def kc (k : Ky) : List Value := [.int .i64 k.1, .string k.2]
def kcells (l : List Ky) : List Value := l.flatMap kc
theorem kcells_length (l : List Ky) : (kcells l).length = l.length * 2 := by
 induction l with
 | nil => rfl
 | cons v r ih => simp only [kcells, List.flatMap_cons, List.length_append] at *; rw [ih]; simp [kc]; omega
theorem kcells_get (l : List Ky) (j : Nat) (v : Ky) (h : l[j]? = some v) (r : Nat) (hr : r < 2) : (kcells l)[j * 2 + r]? = (kc v)[r]? := by
 induction l generalizing j with
 | nil => simp at h
 | cons x t ih =>
  have hx : (kc x).length = 2 := rfl
  simp only [kcells, List.flatMap_cons] at *
  cases j with
  | zero =>
   simp only [List.getElem?_cons_zero, Option.some.injEq] at h
   subst h
   rw [Nat.zero_mul, Nat.zero_add, List.getElem?_append_left (by omega)]
  | succ j =>
   simp only [List.getElem?_cons_succ] at h
   rw [List.getElem?_append_right (by omega), show (j + 1) * 2 + r - (kc x).length = j * 2 + r by omega]
   exact ih j h
/-- A row of keys of a call's own. -/
def OwnK (w : World) (base : Nat) (v : Value) (l : List Ky) : Prop := w.ownsRow base 27 2 v l.length (kcells l)
def KyAt (w : World) (g i : Nat) (k : Ky) : Prop := w.cell? ⟨g, i * 2, none⟩ = some (.int .i64 k.1) ∧ w.cell? ⟨g, i * 2 + 1, none⟩ = some (.string k.2)
theorem OwnK.slice {w : World} {base : Nat} {v : Value} {l : List Ky} (h : OwnK w base v l) : (v = .slice none 0 0 ∧ l = []) ∨ ∃ g c, v = .slice (some ⟨g, 0, none⟩) l.length c ∧ base ≤ g ∧ g < w.heap.size ∧ l.length ≤ c := by
 obtain ⟨hl, ⟨h0, h1⟩ | ⟨g, c, cur, hv, hb, hg, hc, _⟩⟩ := h
 ·exact .inl ⟨h0, List.eq_nil_of_length_eq_zero h1⟩
 ·exact .inr ⟨g, c, hv, hb, heap_lt hg, hc⟩
theorem OwnK.at_ {w : World} {base g c : Nat} {l : List Ky} (h : OwnK w base (.slice (some ⟨g, 0, none⟩) l.length c) l) (i : Nat) (k : Ky) (hi : l[i]? = some k) : KyAt w g i k := by
 have hl : i < l.length := (List.getElem?_eq_some_iff.1 hi).1
 have h' : w.ownsRow base 27 2 (.slice (some ⟨g, 0, none⟩) l.length c) l.length (kcells l) := h
 have key : ∀ r v, r < 2 → (kc k)[r]? = some v → w.cell? ⟨g, i * 2 + r, none⟩ = some v := fun r v hr hv => by
  rw [h'.cellAt (i * 2 + r) (by omega), kcells_get l i k hi r hr, hv]
 exact ⟨key 0 _ (by omega) rfl, key 1 _ (by omega) rfl⟩
theorem OwnK.step {w w' : World} {base : Nat} {v : Value} {l : List Ky} (h : OwnK w base v l) (hw : Below w.heap.size w w') : OwnK w' base v l := by
 obtain ⟨hl, h0 | ⟨g, c, cur, hv, hb, hg, hr⟩⟩ := h
 ·exact ⟨hl, .inl h0⟩
 ·exact ⟨hl, .inr ⟨g, c, cur, hv, hb, heap_step hg hw, hr⟩⟩
theorem OwnK.base {w : World} {b b' : Nat} {v : Value} {l : List Ky} (h : OwnK w b v l) (hb : b' ≤ b) : OwnK w b' v l := by
 obtain ⟨hl, h0 | ⟨g, c, cur, hv, hg0, hg, hr⟩⟩ := h
 ·exact ⟨hl, .inl h0⟩
 ·exact ⟨hl, .inr ⟨g, c, cur, hv, Nat.le_trans hb hg0, hg, hr⟩⟩
theorem news2 (w : World) (k : Ky) : ∀ j u, (kc k)[j]? = some u → (w.alloc (.cells #[.int .i64 k.1, .string k.2] 27)).cell? ((⟨w.heap.size, 0, none⟩ : Addr).add j) = some u := fun j u h => by
 rw [addr_add, cellH (heap_new w _) j, ← h]
 match j with
 | 0 => rfl
 | 1 => rfl
 | j + 2 => simp [kc]
theorem one2 (k : Ky) : ∀ u ∈ kc k, u.oneCell' = true := fun u hu => by
 simp only [kc, List.mem_cons, List.not_mem_nil, or_false] at hu
 rcases hu with rfl | rfl <;> rfl
theorem ownk_snoc {w : World} {base : Nat} {v : Value} {l : List Ky} {k : Ky} (h : w.ownsRow base 27 2 v (l.length + 1) (kcells l ++ kc k)) : OwnK w base v (l ++ [k]) := by
 unfold OwnK
 rw [List.length_append]
 simpa [kcells] using h
def KeysPost (w : World) (l : List Ky) (e : Ending) (w' : World) : Prop := ∃ v, e = .returned v ∧ OwnK w' w.heap.size v l ∧ Below w.heap.size w w'

set_option maxHeartbeats 8000000 in
theorem keys_any (w : World) (p : Option Addr) (l : List Bd) (h : EnvAt w p l) (hn : l.length ≤ 900000) : Calls Try.prog 36 #[.pointer p] w (KeysPost w ((vis ((l.map (·.bi)).reverse)).map (·.k))) := by
 obtain ⟨i31, hi31, hy0, hy1, hy2⟩ : ∃ i31, Try.prog.info? 27 = some i31 ∧ i31.zero = some (.agg #[.int .i64 0, .string ByteArray.empty]) ∧ i31.size = 2 ∧ i31.bytes = 24 := by
  refine ⟨_, rfl, ?_, ?_, ?_⟩ <;> kernel_rfl
 have HA := Lib.hid (bound_any w p l h hn)
 obtain ⟨L, hL⟩ : ∃ L, L = vis ((l.map (·.bi)).reverse) := ⟨_, rfl⟩
 rw [← hL] at HA ⊢
 have HN : Hid (L.length ≤ 900000) := Lib.hid (by rw [hL]; have := visTo_len ((l.map (·.bi)).reverse) ((l.map (·.bi)).reverse).length; unfold vis; simp at this ⊢; omega)
 clear h hn hL
 go_enter Try.func36, Try.ntmps36
 go_wp2_with (go_at_call 44; refine HA.out.mono ?_; rintro e w1 ⟨v, rfl, ho1, hb1⟩; have HO1 := Lib.hid ho1; have HB1 := Lib.hid hb1; obtain ⟨q, n, c, rfl, hbs⟩ := ho1.bs; have HBS := Lib.hid hbs; clear ho1 hb1 hbs)
 obtain ⟨hnl, _⟩ := HBS.out
 have hn9 : n ≤ 900000 := by have := HN.out; omega
 have HNL := Lib.hid hnl
 clear hnl
 go_loopw [3, 9] (fun v i wr => ∃ k : Nat, k ≤ n ∧ i = .int .i64 k ∧ Hid (OwnK wr w1.heap.size v ((L.take k).map (·.k))) ∧ Hid (Below w1.heap.size w1 wr)) (fun _ i _ => n - (intOf i).toNat)
 case atStart => exact ⟨0, by omega, rfl, Lib.hid ⟨rfl, .inl ⟨rfl, rfl⟩⟩, Lib.hid (Below.refl _ _)⟩
 case round =>
  obtain ⟨k, hk, rfl, HO, HB⟩ := hrel
  by_cases hlt : k < n
  ·obtain ⟨hn1, h0 | ⟨gb, rfl, hcb, hgb, hat⟩⟩ := HBS.out
   ·omega
   obtain ⟨b, hb⟩ : ∃ b, L[k]? = some b := ⟨_, List.getElem?_eq_getElem (by omega)⟩
   obtain ⟨v0, v1, v2, v3, v4, v5⟩ := (hat k b hb).step hgb HB.out
   have hgb2 : gb < wr.heap.size := Nat.lt_of_lt_of_le hgb HB.out.size
   have r1 : (0 : Int) ≤ (k : Int) := by omega
   have r2 : (k : Int) < (n : Int) := by omega
   have hbz := HB.out.size
   have hrow := HO.out
   unfold OwnK at hrow
   have hvl : ((L.take k).map (·.k)).length ≤ 900000 := by simp; omega
   have hbx : (kcells ((L.take k).map (·.k))).length = ((L.take k).map (·.k)).length * 2 := kcells_length _
   have HTK : Hid ((L.take (k + 1)).map (·.k) = (L.take k).map (·.k) ++ [b.k]) := Lib.hid (by rw [List.take_add_one, hb]; simp)
   have HNW : Hid (∀ j u, (kc b.k)[j]? = some u → ((wr.alloc (.cells #[.int .i64 b.k.1, .string b.k.2, .int .i64 b.dc, .int .i64 b.via, .pointer b.pa, .pointer b.pm] 85)).alloc (.cells #[.int .i64 b.k.1, .string b.k.2] 27)).cell? ((⟨wr.heap.size + 1, 0, none⟩ : Addr).add j) = some u) := Lib.hid (by
    have := news2 (wr.alloc (.cells #[.int .i64 b.k.1, .string b.k.2, .int .i64 b.dc, .int .i64 b.via, .pointer b.pa, .pointer b.pm] 85)) b.k
    rwa [show (wr.alloc (.cells #[.int .i64 b.k.1, .string b.k.2, .int .i64 b.dc, .int .i64 b.via, .pointer b.pa, .pointer b.pm] 85)).heap.size = wr.heap.size + 1 by simp] at this)
   clear hat hb hn1
   simp only [at0]
   go_wp2_with (first
    | (at_builtin; refine wpList_append_own _ rfl _ _ 74 rfl w1.heap.size 27 i31 _ 2 24 Try.underlying74 hi31 hy0 hy1 hy2 rfl (by decide) _ _ _ rfl (World.ownsRow.alloc (World.ownsRow.alloc hrow _) _) ⟨_, 0, none⟩ 1 1 (kc b.k) rfl rfl HNW.out (one2 b.k) (by unfold maxLen; omega) (by omega) (by simp; omega) ?_; intro v' w3 hown' hg3 hnil3; have HO' := Lib.hid (ownk_snoc hown'); have HG3 := Lib.hid (((HB.out.alloc hbz _).alloc (by simp; omega) _).grown hg3 (by simp; omega) (fun j hj => (World.ownsRow.lt hrow j hj).1)); clear hown' hg3 hnil3)
    | go_in)
   go_roundw
   case rel => exact ⟨k + 1, by omega, by go_num, Lib.hid (by rw [HTK.out]; exact HO'.out), HG3⟩
   case measure => simp [intOf]; omega
  ·have hkn : k = n := by omega
   have HF : Hid (OwnK wr w.heap.size u3 (L.map (·.k))) := Lib.hid (by have := HO.out; rw [hkn, HNL.out, List.take_length] at this; exact this.base HB1.out.size)
   clear hkn HO
   go_wp2_with fail
   go_ret
   exact ⟨_, rfl, HF.out, HB1.out.trans (HB.out.mono HB1.out.size)⟩
end Go.Proofs.Ytagkpcnedccaiaa

namespace Go.Proofs.Ytagkpcnedccaiaa
open Go.RowKit
set_option maxRecDepth 20000
set_option linter.unusedVariables false
set_option linter.unusedSimpArgs false

mutual
/-- A binding bears a binding of the document's. -/
def RepB (w : World) : Bn → Bi → Prop
 | .mk h ps qs, b => b.k = h.k ∧ b.dc = h.dc ∧ b.via = h.via ∧ (∃ L, EnvAt w b.pa L ∧ RepL w ps ((L.map (·.bi)).reverse)) ∧ (∃ L, EnvAt w b.pm L ∧ RepL w qs ((L.map (·.bi)).reverse))
def RepL (w : World) : List Bn → List Bi → Prop
 | [], [] => True
 | x :: r, b :: s => RepB w x b ∧ RepL w r s
 | [], _ :: _ => False
 | _ :: _, [] => False
end
mutual
theorem RepB.step {w w1 : World} (hw : Below w.heap.size w w1) : ∀ (x : Bn) (b : Bi), RepB w x b → RepB w1 x b
 | .mk h ps qs, b, hr => by
  simp only [RepB] at hr ⊢
  obtain ⟨h1, h2, h3, ⟨L, h4, h5⟩, ⟨M, h6, h7⟩⟩ := hr
  exact ⟨h1, h2, h3, ⟨L, h4.step hw, RepL.step hw ps _ h5⟩, ⟨M, h6.step hw, RepL.step hw qs _ h7⟩⟩
theorem RepL.step {w w1 : World} (hw : Below w.heap.size w w1) : ∀ (l : List Bn) (bs : List Bi), RepL w l bs → RepL w1 l bs
 | [], [], _ => by simp only [RepL]
 | x :: r, b :: s, hr => by
  simp only [RepL] at hr ⊢
  exact ⟨RepB.step hw x b hr.1, RepL.step hw r s hr.2⟩
 | [], _ :: _, hr => by simp only [RepL] at hr
 | _ :: _, [], hr => by simp only [RepL] at hr
end
theorem RepL.len {w : World} : ∀ {l : List Bn} {bs : List Bi}, RepL w l bs → l.length = bs.length
 | [], [], _ => rfl
 | x :: r, b :: s, hr => by simp only [RepL] at hr; simp [RepL.len hr.2]
 | [], _ :: _, hr => by simp only [RepL] at hr
 | _ :: _, [], hr => by simp only [RepL] at hr
theorem RepL.snoc {w : World} : ∀ {l : List Bn} {bs : List Bi} {x : Bn} {b : Bi}, RepL w l bs → RepB w x b → RepL w (l ++ [x]) (bs ++ [b])
 | [], [], x, b, _, h => by simp only [List.nil_append, RepL]; exact ⟨h, trivial⟩
 | y :: r, c :: s, x, b, hr, h => by
  simp only [RepL] at hr
  simp only [List.cons_append, RepL]
  exact ⟨hr.1, RepL.snoc hr.2 h⟩
 | [], _ :: _, _, _, hr, _ => by simp only [RepL] at hr
 | _ :: _, [], _, _, hr, _ => by simp only [RepL] at hr
theorem RepL.get {w : World} : ∀ {l : List Bn} {bs : List Bi} {i : Nat} {x : Bn}, RepL w l bs → l[i]? = some x → ∃ b, bs[i]? = some b ∧ RepB w x b
 | [], _, i, x, _, h => by simp at h
 | y :: r, c :: s, 0, x, hr, h => by
  simp only [RepL] at hr
  simp only [List.getElem?_cons_zero, Option.some.injEq] at h
  subst h
  exact ⟨c, rfl, hr.1⟩
 | y :: r, c :: s, i + 1, x, hr, h => by
  simp only [RepL] at hr
  simp only [List.getElem?_cons_succ] at h ⊢
  exact RepL.get hr.2 h
 | _ :: _, [], _, _, hr, _ => by simp only [RepL] at hr
/-- An environment bears bindings of the document's. -/
def EnvIs (w : World) (p : Option Addr) (l : List Bn) : Prop := ∃ L, EnvAt w p L ∧ RepL w l ((L.map (·.bi)).reverse)
theorem EnvIs.step {w w1 : World} {p : Option Addr} {l : List Bn} (h : EnvIs w p l) (hw : Below w.heap.size w w1) : EnvIs w1 p l := by
 obtain ⟨L, h1, h2⟩ := h; exact ⟨L, h1.step hw, RepL.step hw _ _ h2⟩
theorem repB_iff (w : World) (x : Bn) (b : Bi) : RepB w x b ↔ b.k = x.h.k ∧ b.dc = x.h.dc ∧ b.via = x.h.via ∧ EnvIs w b.pa x.ps ∧ EnvIs w b.pm x.qs := by
 cases x; simp only [RepB, Bn.h, Bn.ps, Bn.qs, EnvIs]

def MadePost (W : World) (L0 : List Bd) (l : List Bn) (e : Ending) (W' : World) : Prop :=
 ∃ (p' : Option Addr) (new : List Bd), e = .returned (.pointer p') ∧ EnvAt W' p' (new ++ L0) ∧ RepL W' l ((new.map (·.bi)).reverse) ∧ (∀ b ∈ new, W.heap.size ≤ b.lk) ∧ Below W.heap.size W W'
set_option maxHeartbeats 8000000 in
theorem made8 : ∀ (m : Nat) (l : List Bn), sizes l ≤ m → m ≤ 2000 → ∀ (W : World) (p : Option Addr) (L0 : List Bd) (q : Option Addr) (n c : Nat), Bl W q n c l → EnvAt W p L0 → L0.length ≤ 2000 →
  Calls Try.prog 10 #[.pointer p, .slice q n c] W (MadePost W L0 l) := by
 intro m
 induction m using Nat.strongRecOn with
 | _ m ih =>
  intro l hl hm W p L0 q n c hb he h0
  have HB := Lib.hid hb.1
  have HA := Lib.hid hb.2
  have HL := Lib.hid hl
  have HM := Lib.hid hm
  have hn : n = l.length := hb.1.1
  have hnl : n ≤ 2000 := by have := sizes_len l; omega
  have HN := Lib.hid hn
  have IH := Lib.hid ih
  have HE := Lib.hid he
  have H0 := Lib.hid h0
  clear hb hl hm hn ih he h0
  go_enter Try.func10, Try.ntmps10
  go_wp2_with fail
  go_loopw [0, 9] (fun v i wr => ∃ (k : Nat) (p' : Option Addr) (new : List Bd), k ≤ n ∧ i = .int .i64 k ∧ v = .pointer p' ∧ Hid (EnvAt wr p' (new ++ L0)) ∧ Hid (RepL wr (l.take k) ((new.map (·.bi)).reverse)) ∧ Hid (∀ b ∈ new, W.heap.size ≤ b.lk) ∧ Hid (Below W.heap.size W wr)) (fun _ i _ => n - (intOf i).toNat)
  case atStart => exact ⟨0, p, [], by omega, rfl, rfl, HE, Lib.hid (by simp [RepL]), Lib.hid (by simp), Lib.hid (Below.refl _ _)⟩
  case round =>
   obtain ⟨k, p', new, hk, rfl, rfl, HEN, HRP, HLO, HBW⟩ := hrel
   by_cases hlt : k < n
   ·obtain ⟨hn1, h0' | ⟨gb, ob, rfl, hcb, hgb, hat⟩⟩ := HB.out
    ·omega
    obtain ⟨y, hy⟩ : ∃ y, l[k]? = some y := ⟨_, List.getElem?_eq_getElem (by omega)⟩
    have hym := List.mem_of_getElem? hy
    obtain ⟨v0, v1, v2, v3, v4, v5⟩ := (hat k y hy).step hgb HBW.out
    have hgb2 : gb < wr.heap.size := Nat.lt_of_lt_of_le hgb HBW.out.size
    have hly := (lies_iff _ _).1 ((allLie_iff _ _).1 HA.out y hym)
    have hsz := size_mem hym
    have hse := y.size_eq
    have HTK : Hid (l.take (k + 1) = l.take k ++ [y]) := Lib.hid (by rw [List.take_add_one, hy]; rfl)
    have hnew : new.length = k := by
     have := HRP.out.len
     simp only [List.length_take, List.length_reverse, List.length_map] at this
     omega
    have H1 : Hid (∀ w, Below W.heap.size W w → Calls Try.prog 10 #[.pointer none, .slice y.h.pp y.h.pn y.h.pc] w (MadePost w [] y.ps)) := Lib.hid fun w hw => IH.out (sizes y.ps) (by have := HL.out; omega) y.ps (Nat.le_refl _) (by have := HM.out; have := HL.out; omega) w none [] _ _ _ (Bl.step ⟨hly.1, hly.2.2.1⟩ hw) (EnvAt.nil _) (by simp)
    have H2 : Hid (∀ w, Below W.heap.size W w → Calls Try.prog 10 #[.pointer none, .slice y.h.qp y.h.qn y.h.qc] w (MadePost w [] y.qs)) := Lib.hid fun w hw => IH.out (sizes y.qs) (by have := HL.out; omega) y.qs (Nat.le_refl _) (by have := HM.out; have := HL.out; omega) w none [] _ _ _ (Bl.step ⟨hly.2.1, hly.2.2.2⟩ hw) (EnvAt.nil _) (by simp)
    have H3 : Hid (∀ w p1 p2, Below wr.heap.size wr w → Calls Try.prog 25 #[.pointer p', .agg #[.int .i64 y.h.k.1, .string y.h.k.2], .agg #[.int .i64 y.h.dc, .int .i64 y.h.via, .pointer p1, .pointer p2]] w (AndPost w (new ++ L0) [⟨y.h.k, y.h.dc, y.h.via, p1, p2⟩])) := Lib.hid fun w p1 p2 hw => with19_any w p' (new ++ L0) ⟨y.h.k, y.h.dc, y.h.via, p1, p2⟩ (HEN.out.step hw) (by have := H0.out; simp; omega)
    have HFIN : Hid (∀ (w1 w2 w3 : World) (p1 p2 p3 : Option Addr) (n1 n2 n3 : List Bd), Below wr.heap.size wr w1 → EnvAt w1 p1 (n1 ++ []) → RepL w1 y.ps ((n1.map (·.bi)).reverse) → Below w1.heap.size w1 w2 → EnvAt w2 p2 (n2 ++ []) → RepL w2 y.qs ((n2.map (·.bi)).reverse) → Below w2.heap.size w2 w3 → n3.map (·.bi) = [⟨y.h.k, y.h.dc, y.h.via, p1, p2⟩].reverse → RepL w3 (l.take k ++ [y]) (((n3 ++ new).map (·.bi)).reverse)) := Lib.hid (by
     intro w1 w2 w3 p1 p2 p3 n1 n2 n3 hb1 e1 r1 hb2 e2 r2 hb3 hm
     rw [List.map_append, List.reverse_append, hm]
     simp only [List.reverse_cons, List.reverse_nil, List.nil_append]
     rw [List.append_nil] at e1 e2
     have h13 := hb2.trans (hb3.mono hb2.size)
     refine RepL.snoc (RepL.step (hb1.trans (h13.mono hb1.size)) _ _ HRP.out) ((repB_iff _ _ _).2 ⟨rfl, rfl, rfl, ⟨n1, e1.step h13, RepL.step h13 _ _ r1⟩, ⟨n2, e2.step hb3, RepL.step hb3 _ _ r2⟩⟩))
    have hbz := HBW.out.size
    have r1 : (0 : Int) ≤ (k : Int) := by omega
    have r2 : (k : Int) < (n : Int) := by omega
    obtain ⟨Wd, hWd⟩ : ∃ Wd, Wd = wr.alloc (.cells #[.int .i64 y.h.k.1, .string y.h.k.2, .int .i64 y.h.dc, .int .i64 y.h.via, .slice y.h.pp y.h.pn y.h.pc, .slice y.h.qp y.h.qn y.h.qc] 33) := ⟨_, rfl⟩
    have hWdB : Below wr.heap.size wr Wd := by rw [hWd]; exact (Below.refl _ _).alloc (Nat.le_refl _) _
    have hWdb : Wd.heap[wr.heap.size]? = some (.cells #[.int .i64 y.h.k.1, .string y.h.k.2, .int .i64 y.h.dc, .int .i64 y.h.via, .slice y.h.pp y.h.pn y.h.pc, .slice y.h.qp y.h.qn y.h.qc] 33 (0, 0)) := by rw [hWd]; exact heap_new _ _
    have HK : Hid (∀ w, Below Wd.heap.size Wd w → w.cell? ⟨wr.heap.size, 0, none⟩ = some (.int .i64 y.h.k.1) ∧ w.cell? ⟨wr.heap.size, 1, none⟩ = some (.string y.h.k.2) ∧ w.cell? ⟨wr.heap.size, 2, none⟩ = some (.int .i64 y.h.dc) ∧ w.cell? ⟨wr.heap.size, 3, none⟩ = some (.int .i64 y.h.via) ∧ w.cell? ⟨wr.heap.size, 4, none⟩ = some (.slice y.h.pp y.h.pn y.h.pc) ∧ w.cell? ⟨wr.heap.size, 5, none⟩ = some (.slice y.h.qp y.h.qn y.h.qc)) := Lib.hid fun w hw => by
     have := heap_step hWdb hw
     exact ⟨(cellH this 0).trans rfl, (cellH this 1).trans rfl, (cellH this 2).trans rfl, (cellH this 3).trans rfl, (cellH this 4).trans rfl, (cellH this 5).trans rfl⟩
    have HWD := Lib.hid hWd
    have HWB := Lib.hid hWdB
    clear hat hy hym hly hsz hse hn1 hnew hWd hWdB hWdb
    generalize y.h.pp = pp at *
    generalize y.h.pn = pn at *
    generalize y.h.pc = pc at *
    generalize y.h.qp = qp at *
    generalize y.h.qn = qn at *
    generalize y.h.qc = qc at *
    go_wp2_with fail
    rw [← HWD.out]
    have hd := below_d Wd
    have HD1 := Lib.hid (HWB.out.trans (hd.mono HWB.out.size))
    go_region_held3 (fun w => w.cell? ⟨wr.heap.size, 0, none⟩ = some (.int .i64 y.h.k.1) ∧ w.cell? ⟨wr.heap.size, 1, none⟩ = some (.string y.h.k.2) ∧ w.cell? ⟨wr.heap.size, 2, none⟩ = some (.int .i64 y.h.dc) ∧ w.cell? ⟨wr.heap.size, 3, none⟩ = some (.int .i64 y.h.via) ∧ w.cell? ⟨wr.heap.size, 4, none⟩ = some (.slice pp pn pc) ∧ w.cell? ⟨wr.heap.size, 5, none⟩ = some (.slice qp qn qc)) (first | exact HK.out _ hd | exact ⟨y0, y1, y2, y3, y4, y5⟩ | go_keep) (first
     | (go_at_call 25; have hb2x := HQ2.out; clear hb2x; refine (H3.out _ _ _ (HWB.out.trans (HQ2.out.mono HWB.out.size))).mono ?_; rintro e w3 ⟨p3, n3, rfl, he3, hm3, hl3, hb3⟩; have HF := Lib.hid (HFIN.out _ _ w3 _ _ p3 _ _ n3 HQA.out HE1.out HR1.out HQB.out HE2.out HR2.out hb3 hm3); have HE3 := Lib.hid he3; have HL3 := Lib.hid hl3; have HQ3 := Lib.hid (HQ2.out.trans (hb3.mono HQ2.out.size)); obtain ⟨y0, y1, y2, y3, y4, y5⟩ := HK.out w3 HQ3.out; clear he3 hm3 hl3 hb3)
     | (go_at_call 10; have hb1x := HQ1.out; clear hb1x; refine (H2.out _ (HBW.out.trans ((HWB.out.trans (HQ1.out.mono HWB.out.size)).mono hbz))).mono ?_; rintro e w2 ⟨p2, n2, rfl, he2, hr2, hl2, hb2⟩; have HQB := Lib.hid hb2; have HE2 := Lib.hid he2; have HR2 := Lib.hid hr2; have HQ2 := Lib.hid (hd.trans ((HQ1d.out.trans (hb2.mono HQ1d.out.size)).mono (Nat.le_refl _))); obtain ⟨y0, y1, y2, y3, y4, y5⟩ := HK.out w2 HQ2.out; clear he2 hr2 hl2 hb2)
     | (go_at_call 10; refine (H1.out _ (HBW.out.trans (HD1.out.mono hbz))).mono ?_; rintro e w1 ⟨p1, n1, rfl, he1, hr1, hl1, hb1⟩; have HQ1d := Lib.hid hb1; have HE1 := Lib.hid he1; have HR1 := Lib.hid hr1; have HQ1 := Lib.hid (hd.trans (hb1.mono (Nat.le_refl _))); have HQA := Lib.hid (HD1.out.trans (hb1.mono HD1.out.size)); obtain ⟨y0, y1, y2, y3, y4, y5⟩ := HK.out w1 HQ1.out; clear he1 hr1 hl1 hb1))
    all_goals
     go_wp2_with fail
     go_roundw
     case rel =>
      have q3 := HWB.out.trans (HQ3.out.mono HWB.out.size)
      refine ⟨k + 1, p3, n3 ++ new, by omega, by go_num, rfl, Lib.hid (by rw [List.append_assoc]; exact HE3.out), Lib.hid (by rw [HTK.out]; exact HF.out), Lib.hid (fun b hb => ?_), Lib.hid (HBW.out.trans (q3.mono hbz))⟩
      rcases List.mem_append.1 hb with hb | hb
      ·have := HL3.out b hb
       have h2 := (HWB.out.trans (HQ2.out.mono HWB.out.size)).size
       omega
      ·exact HLO.out b hb
     case measure => simp [intOf]; omega
   ·have hkn : k = n := by omega
    have HF : Hid (MadePost W L0 l (.returned (.pointer p')) wr) := Lib.hid ⟨p', new, rfl, HEN.out, by have := HRP.out; rw [hkn, HN.out, List.take_length] at this; exact this, HLO.out, HBW.out⟩
    clear hkn
    go_wp2_with fail
    go_ret
    exact HF.out
end Go.Proofs.Ytagkpcnedccaiaa
