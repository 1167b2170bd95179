/-
  Which key is the first that stands ahead of it, too (Twice).; A match does not hang on which list an environment is of; what is gone through already.; The map of the pairs gone through: its keys, how often each was met.
-/
import Derived.Test.YtagkpcnedccaiaaFN
import Derived.Test.YtagkpcnedccaiaaFO
import Derived.Test.YtagkpcnedccaiaaFL
namespace Go.Proofs.Ytagkpcnedccaiaa
open Go.RowKit
set_option maxRecDepth 20000
set_option linter.unusedVariables false
set_option linter.unusedSimpArgs false

section
variable {α : Type} [DecidableEq α] {kt : TypeId} {kv : α → Value} {G : World → α → Prop}
theorem modify_born (es : Array MapEntry) (i : Nat) (f : MapEntry → MapEntry) (hf : ∀ e, (f e).born = e.born) : (es.modify i f).toList.map (·.born) = es.toList.map (·.born) := by
 apply List.ext_getElem?
 intro j
 simp only [List.getElem?_map, Array.getElem?_toList, Array.getElem?_modify]
 by_cases hij : i = j
 ·subst hij
  cases he : es[i]? with
  | none => simp
  | some e => simp [hf e]
 ·simp [hij]
theorem store_run (w : World) (mt : TypeId) (b : Nat) (es : Array MapEntry) (clock : Nat) (j : Nat) (e : MapEntry) (v : Value) (hb : w.heap[b]? = some (.map es clock)) (hs : (es.toList.map (·.born)).Nodup) (hj : es[j]? = some e) :
  (Instr.entryStore mt (.map (some b)) (goInt e.born) v).run Try.prog w = .ok () { w with heap := w.heap.setIfInBounds b (.map (es.modify j fun x => { x with val := v }) clock) } := by
 have hidx : es.findIdx? (fun x => (x.born : Int) == (e.born : Int)) = some j := by
  rw [Array.findIdx?_eq_some_iff_getElem]
  obtain ⟨hjl, hje⟩ := Array.getElem?_eq_some_iff.1 hj
  refine ⟨hjl, by simp [hje], fun i hi => ?_⟩
  simp only [beq_iff_eq, Int.natCast_inj]
  intro hc
  have hil : i < es.size := by omega
  have h1 : (es.toList.map (·.born))[i]? = some e.born := by simp [hil, hc]
  have h2 : (es.toList.map (·.born))[j]? = some e.born := by simp [hjl, hje]
  have : i = j := (List.getElem?_inj (by simpa using hil) hs).1 (h1.trans h2.symm)
  omega
 simp [Instr.entryStore, MapKept.run_getObj_map hb, goInt, asInt, asIntOf, Result.andThen, hidx, MapKept.run_setObj_map _ hb]
/-- m[k] op= v: the entry is laid, then its value is stored. -/
theorem entry_run (K : KeyOK kt kv G) {mt et : TypeId} {z : Value} (hm : Try.prog.underlying mt = some (.map kt et)) (w : World) (b : Nat) (l : List (α × Value)) (h : MapV kv w b l) (hg : ∀ x ∈ l, G w x.1) (a : α) (ha : G w a) (hz : (zeroValue et).run Try.prog w = .ok z w) (v : Value) :
  ∃ st w1 w2, (Instr.mapEntry mt (.map (some b)) (kv a)).run Try.prog w = .ok (.tuple #[(lkm l a).getD z, st]) w1 ∧ MapTo kv w w1 b (upm l a ((lkm l a).getD z)) ∧ (Instr.entryStore mt (.map (some b)) st v).run Try.prog w1 = .ok () w2 ∧ MapTo kv w w2 b (upm l a v) := by
 obtain ⟨es, clock, hb, hl, hs⟩ := h
 rcases find_key K w a ha es.toList l hl hg with ⟨h1, h2, h3⟩ | ⟨j, e, v0, h1, h2, h3, h4, h5, h6⟩
 ·obtain ⟨k1, k2, k3⟩ := set_to (o' := .map (es.push { key := kv a, val := z, born := clock }) (clock + 1)) hb
  have hs1 := MapKept.stamped_push (key := kv a) (val := z) hs (keys_fresh K hl h2)
  have hj : (es.push { key := kv a, val := z, born := clock } : Array MapEntry)[es.size]? = some { key := kv a, val := z, born := clock } := by simp
  have hst := store_run _ mt b _ _ es.size _ v k2 hs1.2.1 hj
  obtain ⟨q1, q2, q3⟩ := set_to (o' := .map ((es.push { key := kv a, val := z, born := clock } : Array MapEntry).modify es.size fun x => { x with val := v }) (clock + 1)) k2
  refine ⟨goInt clock, _, _, ?_, ⟨⟨_, _, k2, by rw [h1]; exact push_list clock hl h2, hs1⟩, k1, k3⟩, hst, ⟨⟨_, _, q2, ?_, ?_⟩, kp_trans k1 q1, fun N W hN hB => q3 N W hN (k3 N W hN hB)⟩⟩
  ·simp [Instr.mapEntry, run_underlying hm, MapKept.run_getObj_map hb, K.check, h3, hz, MapKept.run_setObj_map _ hb, Result.andThen, h1]
  ·have hp : (es.push { key := kv a, val := z, born := clock } : Array MapEntry).modify es.size (fun x => { x with val := v }) = es.push { key := kv a, val := v, born := clock } := by
    apply Array.ext_getElem?
    intro i
    rw [Array.getElem?_modify]
    by_cases hi : es.size = i
    ·subst hi; simp
    ·rw [if_neg hi]
     simp only [Array.getElem?_push]
     rw [if_neg (fun e => hi e.symm), if_neg (fun e => hi e.symm)]
   rw [hp]
   exact push_list clock hl h2
  ·exact MapKept.stamped_modify hs1 _ _ (fun _ _ => rfl) (fun _ _ _ => rfl)
 ·have hj : es[j]? = some e := by simpa using h1
  obtain ⟨k1, k2, k3⟩ := set_to (o' := .map (es.modify j fun e => { e with key := kv a }) clock) hb
  have hs1 := MapKept.stamped_modify hs j (fun e => { e with key := kv a }) (fun _ _ => rfl) (fun e' _ he' => by rw [hj] at he'; cases he'; exact h3.symm)
  have hj1 : (es.modify j fun e => { e with key := kv a })[j]? = some { e with key := kv a } := by rw [Array.getElem?_modify, if_pos rfl, hj]; rfl
  have hst := store_run _ mt b _ _ j _ v k2 hs1.2.1 hj1
  obtain ⟨q1, q2, q3⟩ := set_to (o' := .map ((es.modify j fun e => { e with key := kv a }).modify j fun x => { x with val := v }) clock) k2
  have hn := keys_nodup K hl hs
  have hkey : (es.modify j fun e => { e with key := kv a }) = es := by
   apply Array.ext_getElem?
   intro i
   rw [Array.getElem?_modify]
   by_cases hi : j = i
   ·subst hi; rw [if_pos rfl, hj, ← h3]; rfl
   ·rw [if_neg hi]
  refine ⟨goInt e.born, _, _, ?_, ⟨⟨_, _, k2, ?_, hs1⟩, k1, k3⟩, hst, ⟨⟨_, _, q2, ?_, ?_⟩, kp_trans k1 q1, fun N W hN hB => q3 N W hN (k3 N W hN hB)⟩⟩
  ·simp [Instr.mapEntry, run_underlying hm, MapKept.run_getObj_map hb, K.check, h6, hj, h3, bits_run K, MapKept.run_setObj_map _ hb, Result.andThen, h5]
  ·rw [h5]
   exact modify_list _ (fun e' he' => by rw [hj] at he'; cases he'; exact ⟨rfl, h4⟩) hl h2 hn
  ·rw [hkey]
   exact modify_list _ (fun e' he' => by rw [hj] at he'; cases he'; exact ⟨h3, rfl⟩) hl h2 hn
  ·exact MapKept.stamped_modify hs1 _ _ (fun _ _ => rfl) (fun _ _ _ => rfl)
end
end Go.Proofs.Ytagkpcnedccaiaa

namespace Go.Proofs.Ytagkpcnedccaiaa
open Go.RowKit
set_option maxRecDepth 20000
set_option linter.unusedVariables false
set_option linter.unusedSimpArgs false

theorem visN_nodup {y : List Bn} {i j : Nat} {a b : Bn} (ha : (visN y)[i]? = some a) (hb : (visN y)[j]? = some b) (hk : a.h.k = b.h.k) : a = b := by
 have h1 := fndN_vis (List.mem_of_getElem? ha)
 have h2 := fndN_vis (List.mem_of_getElem? hb)
 rw [hk, h2] at h1
 exact (Option.some.inj h1).symm
/-- Lists that say the same bind a key alike. -/
theorem fndN_sm {y z : List Bn} (h : SM y z) (k : Ky) : (fndN y k = none ∧ fndN z k = none) ∨ ∃ c d, fndN y k = some c ∧ fndN z k = some d ∧ c.h.k = d.h.k ∧ c.h.dc = d.h.dc ∧ SM c.ps d.ps := by
 have half : ∀ {y z : List Bn}, SM y z → ∀ {c}, fndN y k = some c → ∃ d, fndN z k = some d ∧ c.h.k = d.h.k ∧ c.h.dc = d.h.dc ∧ SM c.ps d.ps := fun {y z} h {c} hc => by
  obtain ⟨i, hi⟩ := List.getElem?_of_mem (vis_fndN hc)
  obtain ⟨h1, h2⟩ := (sm_iff y z).1 h
  have hlt : i < (visN z).length := by rw [← h1]; exact (List.getElem?_eq_some_iff.1 hi).1
  obtain ⟨d, hd⟩ : ∃ d, (visN z)[i]? = some d := ⟨_, List.getElem?_eq_getElem hlt⟩
  obtain ⟨e1, e2, e3, e4⟩ := h2 i c d hi hd
  refine ⟨d, ?_, e1, e2, e3⟩
  rw [← (fndN_key hc).1, e1]
  exact fndN_vis (List.mem_of_getElem? hd)
 cases hy : fndN y k with
 | some c =>
  obtain ⟨d, h1, h2⟩ := half h hy
  exact .inr ⟨c, d, rfl, h1, h2⟩
 | none =>
  cases hz : fndN z k with
  | none => exact .inl ⟨rfl, rfl⟩
  | some d =>
   obtain ⟨c, h1, _⟩ := half h.symm hz
   rw [hy] at h1; cases h1
theorem mtF_sm : ∀ (f : Nat) (x x' y y' : List Bn), SM x x' → SM y y' → mtF f x y = mtF f x' y'
 | 0, _, _, _, _, _, _ => rfl
 | f + 1, x, x', y, y', hx, hy => by
  simp only [mtF]
  obtain ⟨h1, h2⟩ := (sm_iff x x').1 hx
  refine mtL_eq h1 fun i a b ha hb => ?_
  obtain ⟨e1, e2, e3, e4⟩ := h2 i a b ha hb
  refine ⟨e1, e2, fun c d hc hd => ?_, ?_⟩
  ·rcases fndN_sm hy a.h.k with ⟨n1, n2⟩ | ⟨c', d', m1, m2, m3, m4, m5⟩
   ·rw [n1] at hc; cases hc
   ·rw [hc] at m1; rw [hd] at m2
    obtain rfl := Option.some.inj m1
    obtain rfl := Option.some.inj m2
    exact mtF_sm f _ _ _ _ e3 m5
  ·rcases fndN_sm hy a.h.k with ⟨n1, n2⟩ | ⟨c', d', m1, m2, m3, m4, m5⟩
   ·exact .inl ⟨n1, n2⟩
   ·exact .inr ⟨c', d', m1, m2, m4⟩
theorem mt_sm {x x' y y' : List Bn} (hx : SM x x') (hy : SM y y') : mt x y = mt x' y' := by
 unfold mt
 rw [mtF_more _ x (Nat.le_refl _) _ (sizes x + sizes x' + 1) y (by omega) (by omega), mtF_more _ x' (Nat.le_refl _) _ (sizes x + sizes x' + 1) y' (by omega) (by omega)]
 exact mtF_sm _ _ _ _ _ hx hy
/-- What one pair of pointers says is one match. -/
theorem mt_det {w : World} {p q : Option Addr} {x x' y y' : List Bn} (hx : EnvIs w p x) (hx' : EnvIs w p x') (hy : EnvIs w q y) (hy' : EnvIs w q y') : mt x y = mt x' y' :=
 mt_sm (is_det hx hx') (is_det hy hy')
mutual
theorem sizeB_det {w : World} : ∀ (x y : Bn) (b : Bi), RepB w x b → RepB w y b → x.size = y.size
 | .mk h ps qs, .mk h' ps' qs', b, hx, hy => by
  simp only [RepB] at hx hy
  obtain ⟨_, _, _, ⟨L, a4, a5⟩, ⟨M, a6, a7⟩⟩ := hx
  obtain ⟨_, _, _, ⟨L', b4, b5⟩, ⟨M', b6, b7⟩⟩ := hy
  rw [env_det b4 a4] at b5
  rw [env_det b6 a6] at b7
  simp only [Bn.size]
  rw [sizesL_det ps ps' _ a5 b5, sizesL_det qs qs' _ a7 b7]
theorem sizesL_det {w : World} : ∀ (x y : List Bn) (bs : List Bi), RepL w x bs → RepL w y bs → sizes x = sizes y
 | [], [], _, _, _ => rfl
 | [], _ :: _, [], _, hy => by simp only [RepL] at hy
 | [], _ :: _, _ :: _, hx, _ => by simp only [RepL] at hx
 | _ :: _, [], [], hx, _ => by simp only [RepL] at hx
 | _ :: _, [], _ :: _, _, hy => by simp only [RepL] at hy
 | x :: r, y :: s, [], hx, _ => by simp only [RepL] at hx
 | x :: r, y :: s, b :: bs, hx, hy => by
  simp only [RepL] at hx hy
  simp only [sizes]
  rw [sizeB_det x y b hx.1 hy.1, sizesL_det r s bs hx.2 hy.2]
end
/-- The lists of one environment are of one size. -/
theorem sizes_det {w : World} {p : Option Addr} {x y : List Bn} (h : EnvIs w p x) (g : EnvIs w p y) : sizes x = sizes y := by
 obtain ⟨L, h1, h2⟩ := h
 obtain ⟨M, g1, g2⟩ := g
 rw [env_det g1 h1] at g2
 exact sizesL_det _ _ _ h2 g2

/-- The pairs gone through: of those not greater than n nothing is missed. -/
def Dn (w : World) (n : Nat) (dom : List (Option Nat × Option Nat)) : Prop :=
 ∀ k ∈ dom, ∀ x y, EnvIs w (k.1.bind at0) x → EnvIs w (k.2.bind at0) y → sizes x ≤ n → isOk (mt x y) = true
theorem Dn.le {w : World} {n m : Nat} {dom : List (Option Nat × Option Nat)} (h : Dn w n dom) (hm : m ≤ n) : Dn w m dom := fun k hk x y hx hy hs => h k hk x y hx hy (by omega)
theorem Dn.nil (w : World) (n : Nat) : Dn w n [] := fun k hk => by cases hk
/-- A pair that is begun counts for nothing that is less. -/
theorem Dn.begin {w : World} {n : Nat} {dom dom' : List (Option Nat × Option Nat)} {k0 : Option Nat × Option Nat} {x0 : List Bn} (h : Dn w n dom) (h0 : EnvIs w (k0.1.bind at0) x0) (hn : n < sizes x0)
  (hd : ∀ k, k ∈ dom' → k ∈ dom ∨ k = k0) : Dn w n dom' := fun k hk x y hx hy hs => by
 rcases hd k hk with h1 | rfl
 ·exact h k h1 x y hx hy hs
 ·have := sizes_det hx h0; omega
/-- A pair that is done counts for all. -/
theorem Dn.done {w : World} {n : Nat} {dom dom' : List (Option Nat × Option Nat)} {k0 : Option Nat × Option Nat} {x0 y0 : List Bn} (h : Dn w n dom) (h0 : EnvIs w (k0.1.bind at0) x0) (h1 : EnvIs w (k0.2.bind at0) y0) (hok : isOk (mt x0 y0) = true)
  (hd : ∀ k, k ∈ dom' → k ∈ dom ∨ k = k0) : Dn w n dom' := fun k hk x y hx hy hs => by
 rcases hd k hk with h2 | rfl
 ·exact h k h2 x y hx hy hs
 ·rw [mt_det hx h0 hy h1]; exact hok
end Go.Proofs.Ytagkpcnedccaiaa

namespace Go.Proofs.Ytagkpcnedccaiaa
open Go.RowKit
set_option maxRecDepth 20000
set_option linter.unusedVariables false
set_option linter.unusedSimpArgs false

def nO (p : Option Addr) : Option Nat := p.map (·.block)
theorem EnvAt.nO {w : World} {p : Option Addr} {l : List Bd} (h : EnvAt w p l) : p = (nO p).bind at0 ∧ GoodB w (nO p) := by
 rcases h with ⟨rfl, _⟩ | ⟨g, t, rfl, hl, hr⟩
 ·exact ⟨rfl, fun g hg => by cases hg⟩
 ·exact ⟨rfl, fun g' hg => by cases hg; exact hr.ty⟩
theorem EnvIs.nO {w : World} {p : Option Addr} {x : List Bn} (h : EnvIs w p x) : p = (nO p).bind at0 ∧ GoodB w (nO p) := by
 obtain ⟨L, h1, _⟩ := h; exact h1.nO
theorem GoodB.step {w w1 : World} {p : Option Nat} (h : GoodB w p) (hw : Below w.heap.size w w1) : GoodB w1 p := fun g hg => by
 obtain ⟨cs, hc⟩ := h g hg; exact ⟨cs, heap_step hc hw⟩
section
variable {α : Type} [DecidableEq α]
theorem upm_mem (l : List (α × Value)) (a : α) (v : Value) (k : α) : k ∈ (upm l a v).map (·.1) ↔ k ∈ l.map (·.1) ∨ k = a := by
 unfold upm
 split
 ·rename_i h
  have : (l.map fun x => if x.1 = a then (a, v) else x).map (·.1) = l.map (·.1) := by
   rw [List.map_map]
   refine List.map_congr_left fun x _ => ?_
   by_cases hx : x.1 = a
   ·simp [hx]
   ·simp [hx]
  rw [this]
  exact ⟨.inl, fun h' => h'.elim id (fun e => e ▸ h)⟩
 ·simp
theorem lkm_none (l : List (α × Value)) (a : α) : lkm l a = none ↔ a ∉ l.map (·.1) := by
 unfold lkm
 simp only [Option.map_eq_none_iff, List.find?_eq_none, decide_eq_true_eq, List.mem_map, not_exists, not_and]
end
def Cts (tab : List ((Option Nat × Option Nat) × Value)) (m : Nat) : Prop := ∀ k v, lkm tab k = some v → ∃ c : Nat, v = .int .i64 c ∧ 1 ≤ c ∧ c ≤ m
theorem Cts.up {tab : List ((Option Nat × Option Nat) × Value)} {m m' : Nat} (h : Cts tab m) (k : Option Nat × Option Nat) (c : Nat) (hc : 1 ≤ c) (hcm : c ≤ m') (hm : m ≤ m') : Cts (upm tab k (.int .i64 c)) m' := fun k' v hv => by
 rw [lkm_up] at hv
 split at hv
 ·cases hv; exact ⟨c, rfl, hc, hcm⟩
 ·obtain ⟨c', h1, h2, h3⟩ := h k' v hv
  exact ⟨c', h1, h2, by omega⟩
def GdT (w : World) (tab : List ((Option Nat × Option Nat) × Value)) : Prop := ∀ x ∈ tab, GoodB w x.1.1 ∧ GoodB w x.1.2
theorem GdT.step {w w1 : World} {tab : List ((Option Nat × Option Nat) × Value)} (h : GdT w tab) (hw : Below w.heap.size w w1) : GdT w1 tab := fun x hx => ⟨(h x hx).1.step hw, (h x hx).2.step hw⟩
theorem GdT.up {w : World} {tab : List ((Option Nat × Option Nat) × Value)} (h : GdT w tab) (k : Option Nat × Option Nat) (v : Value) (hk : GoodB w k.1 ∧ GoodB w k.2) : GdT w (upm tab k v) := fun x hx => by
 have hx' : x.1 ∈ (upm tab k v).map (·.1) := List.mem_map.2 ⟨x, hx, rfl⟩
 rcases (upm_mem _ _ _ _).1 hx' with h1 | h1
 ·obtain ⟨y, hy, hyx⟩ := List.mem_map.1 h1
  rw [← hyx]; exact h y hy
 ·rw [h1]; exact hk
/-- What stands still where only the map changes: other blocks, and all that lies below. -/
structure Mv (b : Nat) (w w' : World) : Prop where
 kp : Kp b w w'
 bel : ∀ N W, N ≤ b → Below N W w → Below N W w'
theorem Mv.trans {b : Nat} {w w1 w2 : World} (h : Mv b w w1) (g : Mv b w1 w2) : Mv b w w2 := ⟨kp_trans h.kp g.kp, fun N W hN hB => g.bel N W hN (h.bel N W hN hB)⟩
theorem Mv.of {b : Nat} {w w1 : World} (h : Below w.heap.size w w1) (hb : b ≤ w.heap.size) : Mv b w w1 := ⟨⟨h.size, fun k hk _ => h.block k hk⟩, fun N W hN hB => hB.trans (h.mono (Nat.le_trans hN hb))⟩
theorem Mv.set {b : Nat} {w w1 : World} (h : Mv b w w1) {g : Nat} (hg : w.heap.size ≤ g) (hb : b ≤ g) (j : Nat) (v : Value) : Mv b w (w1.setCell ⟨g, j, none⟩ v) :=
 ⟨⟨by simpa using h.kp.size, fun k hk hne => (Below.heap_setCell w1 ⟨g, j, none⟩ v k (by simp only; omega)).trans (h.kp.blk k hk hne)⟩, fun N W hN hB => (h.bel N W hN hB).setCell (p := ⟨g, j, none⟩) (by simp only; omega) v⟩
theorem MapV.set {α : Type} {kv : α → Value} {w : World} {b : Nat} {l : List (α × Value)} (h : MapV kv w b l) {g : Nat} (hg : b ≠ g) (j : Nat) (v : Value) : MapV kv (w.setCell ⟨g, j, none⟩ v) b l := by
 obtain ⟨es, c, h1, h2⟩ := h
 exact ⟨es, c, (Below.heap_setCell w ⟨g, j, none⟩ v b hg).trans h1, h2⟩
/-- A key as a value; a missed key, and whether one is missed. -/
def ansV : Except Ky (List (Int × Int)) → Value
 | .ok _ => .tuple #[.agg #[.int .i64 0, .string ByteArray.empty], .bool false]
 | .error k => .tuple #[.agg #[.int .i64 k.1, .string k.2], .bool true]
/-- Of a pair nothing is missed. -/
def Fin2 (w0 : World) (k : Option Nat × Option Nat) : Prop := ∀ x y, EnvIs w0 (k.1.bind at0) x → EnvIs w0 (k.2.bind at0) y → isOk (mt x y) = true
theorem Fin2.of {w0 : World} {k : Option Nat × Option Nat} {x y : List Bn} (hx : EnvIs w0 (k.1.bind at0) x) (hy : EnvIs w0 (k.2.bind at0) y) (h : isOk (mt x y) = true) : Fin2 w0 k := fun x' y' hx' hy' => by rw [mt_det hx' hx hy' hy]; exact h
/-- What is new among the pairs gone through is done. -/
def New2 (w0 : World) (dom dom' : List (Option Nat × Option Nat)) : Prop := ∀ k ∈ dom', k ∈ dom ∨ Fin2 w0 k
theorem New2.trans {w0 : World} {d1 d2 d3 : List (Option Nat × Option Nat)} (h : New2 w0 d1 d2) (g : New2 w0 d2 d3) : New2 w0 d1 d3 := fun k hk => (g k hk).elim (h k) .inr
theorem New2.close {w0 : World} {d1 d2 d3 : List (Option Nat × Option Nat)} {k0 : Option Nat × Option Nat} (hd : ∀ k, k ∈ d2 → k ∈ d1 ∨ k = k0) (g : New2 w0 d2 d3) (h0 : Fin2 w0 k0) : New2 w0 d1 d3 := fun k hk => by
 rcases g k hk with h | h
 ·rcases hd k h with h1 | rfl
  ·exact .inl h1
  ·exact .inr h0
 ·exact .inr h
theorem Dn.new {w0 : World} {n : Nat} {d1 d2 : List (Option Nat × Option Nat)} (h : Dn w0 n d1) (g : New2 w0 d1 d2) : Dn w0 n d2 := fun k hk x y hx hy hs => by
 rcases g k hk with h1 | h1
 ·exact h k h1 x y hx hy hs
 ·exact h1 x y hx hy
/-- Where a match misses. -/
theorem mtL_at {rec : List Bn → List Bn → Except Ky (List (Int × Int))} {y : List Bn} {e : Ky} : ∀ {V : List Bn} {k : Nat} {a : Bn},
  (∀ (i : Nat) (c : Bn), i < k → V[i]? = some c → ∃ z, fndN y c.h.k = some z ∧ (c.h.k.1 = 4 → isOk (rec c.ps z.ps) = true)) → V[k]? = some a →
  ((fndN y a.h.k = none ∧ e = a.h.k) ∨ ∃ c, fndN y a.h.k = some c ∧ a.h.k.1 = 4 ∧ rec a.ps c.ps = .error e) → mtL rec y V = .error e
 | [], k, a, _, h, _ => by simp at h
 | b :: V, 0, a, _, h, he => by
  simp only [List.getElem?_cons_zero, Option.some.injEq] at h
  subst h
  simp only [mtL]
  rcases he with ⟨h1, rfl⟩ | ⟨c, h1, h4, h2⟩
  ·rw [h1]
  ·rw [h1]; simp only [h4, if_true, h2]
 | b :: V, k + 1, a, hp, h, he => by
  have ih := mtL_at (rec := rec) (y := y) (e := e) (V := V) (k := k) (a := a) (fun i c hi hc => hp (i + 1) c (by omega) (by simpa using hc)) (by simpa using h) he
  obtain ⟨z, h1, h2⟩ := hp 0 b (by omega) rfl
  simp only [mtL, h1, ih]
  by_cases h4 : b.h.k.1 = 4
  ·have h3 := h2 h4
   rw [if_pos h4]
   cases hm : rec b.ps z.ps with
   | error k => rw [hm] at h3; cases h3
   | ok m => rfl
  ·rw [if_neg h4]
/-- What a walk over a pair leaves behind. -/
def MissPost (w0 w : World) (b C : Nat) (dom : List (Option Nat × Option Nat)) (x y : List Bn) (e : Ending) (w' : World) : Prop :=
 e = .returned (ansV (mt x y)) ∧ Mv b w w' ∧ (isOk (mt x y) = true → ∃ tab, MapV pairV w' b tab ∧ Cts tab (C + sizes x + 1) ∧ GdT w0 tab ∧ New2 w0 dom (tab.map (·.1)))
end Go.Proofs.Ytagkpcnedccaiaa
