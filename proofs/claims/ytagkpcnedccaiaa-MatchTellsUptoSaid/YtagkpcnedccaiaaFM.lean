/-
  The bindings to which keys are bound, in order (bound).
-/
import Derived.Test.YtagkpcnedccaiaaFL
namespace Go.Proofs.Ytagkpcnedccaiaa
open Go.RowKit
set_option maxRecDepth 20000
set_option linter.unusedVariables false
set_option linter.unusedSimpArgs false

section
variable {α : Type} [DecidableEq α] {kt : TypeId} {kv : α → Value} {G : World → α → Prop}
theorem wpList_upd (w : World) {ops : Array Oper} {rest : List Oper} {o : Oper} {a : Act} {Q : Exit → Act → World → Prop} (hg : o.guard = none) (m x v : Operand) (t : TypeId) (hop : o.op = Op.mapUpdate t m x v)
  (K : KeyOK kt kv G) {et : TypeId} (ht : Try.prog.underlying t = some (.map kt et)) (b : Nat) (l : List (α × Value)) (hm : a.eval m = .map (some b)) (h : MapV kv w b l) (hG : ∀ x ∈ l, G w x.1) (c : α) (hc : G w c) (hx : a.eval x = kv c) (val : Value) (hv : a.eval v = val)
  (hK : ∀ w', MapTo kv w w' b (upm l c val) → wpList Try.prog ops Q rest (a.put o.dst undef) w') : wpList Try.prog ops Q (o :: rest) a w := by
 refine wpList_plain hg fun K' hK' => ?_
 obtain ⟨w', hrun, r1⟩ := upd_run K ht w b l h hG c hc val
 unfold Oper.wp
 simp [execOp, hop, hm, hx, hv, hrun, Result.andThen]
 exact hK' _ _ (hK w' r1)
theorem wpList_look (w : World) {ops : Array Oper} {rest : List Oper} {o : Oper} {a : Act} {Q : Exit → Act → World → Prop} (hg : o.guard = none) (m x : Operand) (t : TypeId) (ok : Bool) (hop : o.op = Op.lookup t m x ok)
  (K : KeyOK kt kv G) {et : TypeId} {z : Value} (ht : Try.prog.underlying t = some (.map kt et)) (b : Nat) (l : List (α × Value)) (hm : a.eval m = .map (some b)) (h : MapV kv w b l) (hG : ∀ x ∈ l, G w x.1) (c : α) (hc : G w c) (hx : a.eval x = kv c) (hz : (zeroValue et).run Try.prog w = .ok z w)
  (hK : wpList Try.prog ops Q rest (a.put o.dst (if ok then .tuple #[(lkm l c).getD z, .bool (lkm l c).isSome] else (lkm l c).getD z)) w) : wpList Try.prog ops Q (o :: rest) a w := by
 refine wpList_plain hg fun K' hK' => ?_
 have hrun := look_run K ht w b l h hG c hc hz ok
 unfold Oper.wp
 simp only [execOp, hop, hm, hx]
 simp only [hrun, Sem.run_bind, Result.andThen]
 exact hK' _ _ hK
end

/-- The last of the first k bindings that has a key. -/
def lastI (l : List Bi) (key : Ky) : Nat → Option Nat
 | 0 => none
 | k + 1 => if (l[k]?.map (·.k)) = some key then some k else lastI l key k
/-- Of the first k bindings those to which keys are bound. -/
def visTo (l : List Bi) : Nat → List Bi
 | 0 => []
 | k + 1 => visTo l k ++ (match l[k]? with | some b => if lastI l b.k l.length = some k then [b] else [] | none => [])
def vis (l : List Bi) : List Bi := visTo l l.length
theorem visTo_len (l : List Bi) : ∀ k, (visTo l k).length ≤ k
 | 0 => by simp [visTo]
 | k + 1 => by
  have := visTo_len l k
  simp only [visTo, List.length_append]
  split
  ·split <;> simp <;> omega
  ·simp; omega
theorem visTo_yes {l : List Bi} {k : Nat} {b : Bi} (h : l[k]? = some b) (hl : lastI l b.k l.length = some k) : visTo l (k + 1) = visTo l k ++ [b] := by
 simp only [visTo, h]; rw [if_pos hl]
theorem visTo_no {l : List Bi} {k : Nat} {b : Bi} (h : l[k]? = some b) (hl : ¬ lastI l b.k l.length = some k) : visTo l (k + 1) = visTo l k := by
 simp only [visTo, h]; rw [if_neg hl]; simp
theorem lastI_some {l : List Bi} {key : Ky} : ∀ {k i : Nat}, lastI l key k = some i → i < k ∧ ∃ b, l[i]? = some b ∧ b.k = key
 | 0, _, h => by simp [lastI] at h
 | k + 1, i, h => by
  simp only [lastI] at h
  split at h
  ·rename_i hk
   injection h with h
   subst h
   refine ⟨by omega, ?_⟩
   cases hb : l[k]? with
   | none => rw [hb] at hk; cases hk
   | some b => rw [hb] at hk; simp at hk; exact ⟨b, rfl, hk⟩
  ·obtain ⟨h1, h2⟩ := lastI_some h
   exact ⟨by omega, h2⟩
theorem lastI_ge {l : List Bi} {key : Ky} {j : Nat} {b : Bi} (hb : l[j]? = some b) (hk : b.k = key) : ∀ {k : Nat}, j < k → ∃ i, lastI l key k = some i ∧ j ≤ i
 | 0, h => by omega
 | k + 1, h => by
  simp only [lastI]
  split
  ·exact ⟨k, rfl, by omega⟩
  ·rename_i hn
   by_cases hj : j = k
   ·subst hj; rw [hb] at hn; simp [hk] at hn
   ·exact lastI_ge hb hk (by omega)

/-- A map from keys to the last place at which they stand among the first k. -/
def Lasts (l : List Bi) (k : Nat) (m : List (Ky × Value)) : Prop := ∀ key, lkm m key = (lastI l key k).map (fun i => Value.int .i64 (i : Nat))
theorem lasts_next {l : List Bi} {k : Nat} {m : List (Ky × Value)} {b : Bi} (h : Lasts l k m) (hb : l[k]? = some b) : Lasts l (k + 1) (upm m b.k (.int .i64 (k : Nat))) := fun key => by
 rw [lkm_up, h key]
 simp only [lastI, hb, Option.map_some, Option.some.injEq]
 by_cases hk : b.k = key <;> simp [hk]

theorem OwnB.bel {w w' : World} {base : Nat} {v : Value} {l : List Bi} {N : Nat} (h : OwnB w base v l) (hN : w.heap.size ≤ N) (hw : Below N w w') : OwnB w' base v l := h.step (hw.mono hN)
/-- A row of a call's own, kept where another block is written that is no row. -/
theorem OwnB.kpm {w w' : World} {base b : Nat} {v : Value} {l : List Bi} {es : Array MapEntry} {c : Nat} (h : OwnB w base v l) (hb : w.heap[b]? = some (.map es c)) (hk : Kp b w w') : OwnB w' base v l := by
 obtain ⟨hl, h0 | ⟨g, cp, cur, hv, hg0, hg, hr⟩⟩ := h
 ·exact ⟨hl, .inl h0⟩
 ·refine ⟨hl, .inr ⟨g, cp, cur, hv, hg0, (hk.blk g (heap_lt hg) ?_).trans hg, hr⟩⟩
  rintro rfl
  rw [hb] at hg; injection hg with hg; cases hg
theorem MapV.grown {α : Type} {kv : α → Value} {w w' : World} {b : Nat} {l : List (α × Value)} {v : Value} {base e size n : Nat} {xs : List Value} (h : MapV kv w b l) (hr : w.ownsRow base e size v n xs) (hg : w.grownBy w' v.ownBlock) : MapV kv w' b l := by
 obtain ⟨es, c, h1, h2⟩ := h
 refine ⟨es, c, (hg.block b (heap_lt h1) ?_).trans h1, h2⟩
 intro e
 obtain ⟨_, ⟨h0, _⟩ | ⟨g, cp, cur, hv, hb, hgg, _⟩⟩ := hr
 ·rw [h0] at e; simp [Value.ownBlock] at e
 ·rw [hv] at e
  simp only [Value.ownBlock, Option.some.injEq] at e
  subst e
  rw [h1] at hgg; injection hgg with hgg; cases hgg

theorem zero3 (w : World) : (zeroValue 3).run Try.prog w = .ok (.int .i64 0) w := by kernel_rfl
set_option maxHeartbeats 8000000 in
theorem bound_any (w : World) (p : Option Addr) (l : List Bd) (h : EnvAt w p l) (hn : l.length ≤ 900000) : Calls Try.prog 44 #[.pointer p] w (RowPost w (vis ((l.map (·.bi)).reverse))) := by
 obtain ⟨i52, hi52, hy0, hy1, hy2⟩ : ∃ i52, Try.prog.info? 85 = some i52 ∧ i52.zero = some (.agg #[.int .i64 0, .string ByteArray.empty, .int .i64 0, .int .i64 0, .pointer none, .pointer none]) ∧ i52.size = 6 ∧ i52.bytes = 56 := by
  refine ⟨_, rfl, ?_, ?_, ?_⟩ <;> kernel_rfl
 have hmm := @run_makeMap Try.prog
 have HA := Lib.hid (all_any w p l h hn)
 obtain ⟨L, hL⟩ : ∃ L, L = (l.map (·.bi)).reverse := ⟨_, rfl⟩
 rw [← hL] at HA ⊢
 have HN : Hid (L.length ≤ 900000) := Lib.hid (by rw [hL]; simpa using hn)
 clear h hn hL
 go_enter Try.func44, Try.ntmps44
 go_wp2_with (go_at_call 58; refine HA.out.mono ?_; rintro e w1 ⟨v, rfl, ho1, hb1⟩; have HO1 := Lib.hid ho1; have HB1 := Lib.hid hb1; obtain ⟨q, n, c, rfl, hbs⟩ := ho1.bs; have HBS := Lib.hid hbs; clear ho1 hb1 hbs)
 obtain ⟨hnl, _⟩ := HBS.out
 have hn9 : n ≤ 900000 := by have := HN.out; omega
 have HNL := Lib.hid hnl
 clear hnl
 go_loopw [15] (fun i wr => ∃ (k : Nat) (m : List (Ky × Value)), k ≤ n ∧ i = .int .i64 k ∧ Hid (MapV keyV wr w1.heap.size m) ∧ Hid (Lasts L k m) ∧ Hid (Below w1.heap.size w1 wr)) (fun i _ => n - (intOf i).toNat)
 case atStart => exact ⟨0, [], by omega, rfl, Lib.hid (MapV.made w1), Lib.hid (fun key => rfl), Lib.hid ((Below.refl _ _).alloc (Nat.le_refl _) _)⟩
 case round =>
  obtain ⟨k, m, hk, rfl, HM, HL, HB⟩ := hrel
  by_cases hlt : k < n
  ·obtain ⟨hn1, h0 | ⟨gb, rfl, hcb, hgb, hat⟩⟩ := HBS.out
   ·omega
   obtain ⟨b, hb⟩ : ∃ b, L[k]? = some b := ⟨_, List.getElem?_eq_getElem (by omega)⟩
   have HNX := Lib.hid (lasts_next HL.out hb)
   obtain ⟨v0, v1, v2, v3, v4, v5⟩ := (hat k b hb).step hgb HB.out
   have hgb2 : gb < wr.heap.size := Nat.lt_of_lt_of_le hgb HB.out.size
   have r1 : (0 : Int) ≤ (k : Int) := by omega
   have r2 : (k : Int) < (n : Int) := by omega
   have hbz := HB.out.size
   clear hat hb hn1
   simp only [at0]
   go_wp2_with (first
    | (at_mapUpdate; refine wpList_upd _ rfl _ _ _ 114 rfl key31_ok Try.underlying114 w1.heap.size m rfl (HM.out.step ((Below.refl _ _).alloc (Nat.le_refl _) _)) (fun _ _ => trivial) b.k trivial rfl _ rfl ?_; intro w3 hto; have HTO := Lib.hid hto; clear hto)
    | go_in)
   go_roundw
   case rel => exact ⟨k + 1, _, by omega, by go_num, Lib.hid HTO.out.map, HNX, Lib.hid (HTO.out.bel _ _ (Nat.le_refl _) (HB.out.alloc hbz _))⟩
   case measure => simp [intOf]; omega
  ·have hkn : k = n := by omega
   have HL2 : Hid (Lasts L L.length m) := Lib.hid (by rw [← HNL.out, ← hkn]; exact HL.out)
   have hmb := Lib.hid HM.out.lt
   clear HL hkn
   go_wp2_with fail
   go_loopw [7, 27] (fun v i wr2 => ∃ k : Nat, k ≤ n ∧ i = .int .i64 k ∧ Hid (OwnB wr2 w1.heap.size v (visTo L k)) ∧ Hid (MapV keyV wr2 w1.heap.size m) ∧ Hid (Below w1.heap.size w1 wr2)) (fun _ i _ => n - (intOf i).toNat)
   case atStart => exact ⟨0, by omega, rfl, Lib.hid ⟨rfl, .inl ⟨rfl, rfl⟩⟩, HM, HB⟩
   case round =>
    obtain ⟨k, hk, rfl, HO, HM2, HB2⟩ := hrel
    by_cases hlt : k < n
    ·obtain ⟨hn1, h0 | ⟨gb, rfl, hcb, hgb, hat⟩⟩ := HBS.out
     ·omega
     obtain ⟨b, hb⟩ : ∃ b, L[k]? = some b := ⟨_, List.getElem?_eq_getElem (by omega)⟩
     obtain ⟨i, hi, hki⟩ := lastI_ge hb rfl (k := L.length) (by have := HNL.out; omega)
     have HV : Hid ((lkm m b.k).getD (.int .i64 0) = .int .i64 (i : Nat)) := Lib.hid (by rw [HL2.out b.k, hi]; rfl)
     have hil := (lastI_some hi).1
     have hi9 : i ≤ 900000 := by have := HN.out; omega
     obtain ⟨v0, v1, v2, v3, v4, v5⟩ := (hat k b hb).step hgb HB2.out
     have hgb2 : gb < wr.heap.size := Nat.lt_of_lt_of_le hgb HB2.out.size
     have r1 : (0 : Int) ≤ (k : Int) := by omega
     have r2 : (k : Int) < (n : Int) := by omega
     have hbz := HB2.out.size
     have hrow := HO.out
     unfold OwnB at hrow
     have hwz : w.heap.size ≤ wr.heap.size := Nat.le_trans HB1.out.size hbz
     have hvl := visTo_len L k
     have hbx : (bcells (visTo L k)).length = (visTo L k).length * 6 := bcells_length _
     have HNW : Hid (∀ j u, b.cells[j]? = some u → ((wr.alloc (.cells #[.int .i64 b.k.1, .string b.k.2, .int .i64 b.dc, .int .i64 b.via, .pointer b.pa, .pointer b.pm] 85)).alloc (.cells #[.int .i64 b.k.1, .string b.k.2, .int .i64 b.dc, .int .i64 b.via, .pointer b.pa, .pointer b.pm] 85)).cell? ((⟨wr.heap.size + 1, 0, none⟩ : Addr).add j) = some u) := Lib.hid (by
      have := news6 (wr.alloc (.cells #[.int .i64 b.k.1, .string b.k.2, .int .i64 b.dc, .int .i64 b.via, .pointer b.pa, .pointer b.pm] 85)) b
      rwa [show (wr.alloc (.cells #[.int .i64 b.k.1, .string b.k.2, .int .i64 b.dc, .int .i64 b.via, .pointer b.pa, .pointer b.pm] 85)).heap.size = wr.heap.size + 1 by simp] at this)
     have HBD := Lib.hid hb
     have HID := Lib.hid hi
     clear hat hb hi hn1
     simp only [at0]
     by_cases hik : i = k
     ·have HVT : Hid (visTo L (k + 1) = visTo L k ++ [b]) := Lib.hid (visTo_yes HBD.out (by rw [HID.out, hik]))
      have HVk : Hid ((lkm m b.k).getD (.int .i64 0) = .int .i64 (k : Nat)) := Lib.hid (by rw [HV.out, hik])
      clear hik HV HID hki hil hi9
      go_wp2_with (first
       | (at_lookup; refine wpList_look _ rfl _ _ 114 false rfl key31_ok Try.underlying114 w1.heap.size m rfl (HM2.out.step ((Below.refl _ _).alloc (Nat.le_refl _) _)) (fun _ _ => trivial) b.k trivial rfl (zero3 _) ?_; simp only [Bool.false_eq_true, if_false]; rw [HVk.out])
       | (at_builtin; refine wpList_append_own _ rfl _ _ 91 rfl w1.heap.size 85 i52 _ 6 56 Try.underlying91 hi52 hy0 hy1 hy2 rfl (by decide) _ _ _ rfl (World.ownsRow.alloc (World.ownsRow.alloc hrow _) _) ⟨_, 0, none⟩ 1 1 b.cells rfl rfl HNW.out (one6 b) (by unfold maxLen; omega) (by omega) (by simp; omega) ?_; intro v' w3 hown' hg3 hnil3; have HO' := Lib.hid (own_snoc hown'); have HG3 := Lib.hid (((HB2.out.alloc hbz _).alloc (by simp; omega) _).grown hg3 (by simp; omega) (fun j hj => (World.ownsRow.lt hrow j hj).1)); have HM3 := Lib.hid ((HM2.out.step (((Below.refl _ _).alloc (Nat.le_refl _) _).alloc (by simp) _)).grown (World.ownsRow.alloc (World.ownsRow.alloc hrow _) _) hg3); clear hown' hg3 hnil3)
       | go_in)
      go_roundw
      case rel => exact ⟨k + 1, by omega, by go_num, Lib.hid (by rw [HVT.out]; exact HO'.out), HM3, HG3⟩
      case measure => simp [intOf]; omega
     ·have HVT : Hid (visTo L (k + 1) = visTo L k) := Lib.hid (visTo_no HBD.out (by rw [HID.out]; intro e; exact hik (Option.some.inj e)))
      go_wp2_with (first
       | (at_lookup; refine wpList_look _ rfl _ _ 114 false rfl key31_ok Try.underlying114 w1.heap.size m rfl (HM2.out.step ((Below.refl _ _).alloc (Nat.le_refl _) _)) (fun _ _ => trivial) b.k trivial rfl (zero3 _) ?_; simp only [Bool.false_eq_true, if_false]; rw [HV.out])
       | go_in)
      go_roundw
      case rel => exact ⟨k + 1, by omega, by go_num, Lib.hid (by rw [HVT.out]; exact World.ownsRow.alloc hrow _), Lib.hid (HM2.out.step ((Below.refl _ _).alloc (Nat.le_refl _) _)), Lib.hid (HB2.out.alloc hbz _)⟩
      case measure => simp [intOf]; omega
    ·have hkn : k = L.length := by have := HNL.out; omega
     have hge : ¬ (k : Int) < (n : Int) := by omega
     have HF : Hid (OwnB wr w.heap.size u7 (vis L)) := Lib.hid (by have := HO.out; rw [hkn] at this; exact OwnB.base this HB1.out.size)
     clear hkn HO
     go_wp2_with fail
     go_ret
     exact ⟨_, rfl, HF.out, HB1.out.trans (HB2.out.mono HB1.out.size)⟩
end Go.Proofs.Ytagkpcnedccaiaa
