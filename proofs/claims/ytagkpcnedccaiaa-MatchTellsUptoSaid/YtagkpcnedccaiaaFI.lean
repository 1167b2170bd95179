/-
  How an environment lies in memory, and rows of bindings; what is bound behind it (and).; What is bound behind an environment (and, With).
-/
import Derived.Test.YtagkpcnedccaiaaFH
import Derived.OwnWalk
namespace Go.Proofs.Ytagkpcnedccaiaa
open Go.RowKit
set_option maxRecDepth 20000
set_option linter.unusedVariables false
set_option linter.unusedSimpArgs false

/-- Binding i of a row. -/
structure BiAt (w : World) (g i : Nat) (b : Bi) : Prop where
 c0 : w.cell? ⟨g, i * 6, none⟩ = some (.int .i64 b.k.1)
 c1 : w.cell? ⟨g, i * 6 + 1, none⟩ = some (.string b.k.2)
 c2 : w.cell? ⟨g, i * 6 + 2, none⟩ = some (.int .i64 b.dc)
 c3 : w.cell? ⟨g, i * 6 + 3, none⟩ = some (.int .i64 b.via)
 c4 : w.cell? ⟨g, i * 6 + 4, none⟩ = some (.pointer b.pa)
 c5 : w.cell? ⟨g, i * 6 + 5, none⟩ = some (.pointer b.pm)
theorem BiAt.step {w w1 : World} {g i : Nat} {b : Bi} (h : BiAt w g i b) (hg : g < w.heap.size) (hw : Below w.heap.size w w1) : BiAt w1 g i b :=
 ⟨(hw.cell (p := ⟨g, _, none⟩) hg).trans h.c0, (hw.cell (p := ⟨g, _, none⟩) hg).trans h.c1, (hw.cell (p := ⟨g, _, none⟩) hg).trans h.c2, (hw.cell (p := ⟨g, _, none⟩) hg).trans h.c3, (hw.cell (p := ⟨g, _, none⟩) hg).trans h.c4, (hw.cell (p := ⟨g, _, none⟩) hg).trans h.c5⟩
/-- A row of bindings. -/
def BS (w : World) (q : Option Addr) (n c : Nat) (bs : List Bi) : Prop :=
 n = bs.length ∧ (n = 0 ∨ ∃ g, q = at0 g ∧ n ≤ c ∧ g < w.heap.size ∧ ∀ i b, bs[i]? = some b → BiAt w g i b)
theorem BS.step {w w1 : World} {q : Option Addr} {n c : Nat} {bs : List Bi} (h : BS w q n c bs) (hw : Below w.heap.size w w1) : BS w1 q n c bs := by
 obtain ⟨hn, h0 | ⟨g, hq, hc, hg, hat⟩⟩ := h
 ·exact ⟨hn, .inl h0⟩
 ·exact ⟨hn, .inr ⟨g, hq, hc, Nat.lt_of_lt_of_le hg hw.size, fun i b hi => (hat i b hi).step hg hw⟩⟩

/-- An environment's own block, of bindings l (the youngest first), with its tree. -/
structure EnvR (w : World) (g : Nat) (l : List Bd) (t : Tr) : Prop where
 ty : ∃ cs, w.heap[g]? = some (.cells cs 98 (0, 0))
 c0 : w.cell? ⟨g, 0, none⟩ = some (.pointer (top l))
 c1 : w.cell? ⟨g, 1, none⟩ = some (.pointer t.ptr)
 lk : Lk w l
 tr : TrAt w t
 srt : Srt t.toL
 look : ∀ k, look t.toL k = look l k
 len : t.toL.length ≤ l.length
 dec : l.Pairwise (fun a b => b.lk < a.lk)
theorem EnvR.lt {w : World} {g : Nat} {l : List Bd} {t : Tr} (h : EnvR w g l t) : g < w.heap.size := by
 obtain ⟨cs, hc⟩ := h.ty; exact heap_lt hc
theorem EnvR.step {w w1 : World} {g : Nat} {l : List Bd} {t : Tr} (h : EnvR w g l t) (hw : Below w.heap.size w w1) : EnvR w1 g l t := by
 have hl := h.lt
 obtain ⟨cs, hc⟩ := h.ty
 exact ⟨⟨cs, heap_step hc hw⟩, (hw.cell (p := ⟨g, _, none⟩) hl).trans h.c0, (hw.cell (p := ⟨g, _, none⟩) hl).trans h.c1, h.lk.step hw, h.tr.step hw, h.srt, h.look, h.len, h.dec⟩
/-- An environment of bindings l, the youngest first. -/
def EnvAt (w : World) (p : Option Addr) (l : List Bd) : Prop := (p = none ∧ l = []) ∨ ∃ g t, p = at0 g ∧ l ≠ [] ∧ EnvR w g l t
theorem EnvAt.step {w w1 : World} {p : Option Addr} {l : List Bd} (h : EnvAt w p l) (hw : Below w.heap.size w w1) : EnvAt w1 p l := by
 rcases h with h | ⟨g, t, hp, hl, hr⟩
 ·exact .inl h
 ·exact .inr ⟨g, t, hp, hl, hr.step hw⟩
theorem EnvAt.nil (w : World) : EnvAt w none [] := .inl ⟨rfl, rfl⟩
theorem EnvAt.lk {w : World} {p : Option Addr} {l : List Bd} (h : EnvAt w p l) : Lk w l := by
 rcases h with ⟨_, rfl⟩ | ⟨g, t, hp, hl, hr⟩
 ·exact trivial
 ·exact hr.lk
theorem EnvAt.dec {w : World} {p : Option Addr} {l : List Bd} (h : EnvAt w p l) : l.Pairwise (fun a b => b.lk < a.lk) := by
 rcases h with ⟨_, rfl⟩ | ⟨g, t, hp, hl, hr⟩
 ·exact List.Pairwise.nil
 ·exact hr.dec

/-- Nothing but block o has turned. -/
structure Kp (o : Nat) (w w' : World) : Prop where
 size : w.heap.size ≤ w'.heap.size
 blk : ∀ k, k < w.heap.size → k ≠ o → w'.heap[k]? = w.heap[k]?
theorem Kp.set (o j : Nat) (v : Value) (w : World) : Kp o w (w.setCell ⟨o, j, none⟩ v) := ⟨by simp, fun k _ hk => Below.heap_setCell w ⟨o, j, none⟩ v k hk⟩
theorem kp_heap {w w1 : World} {o b : Nat} {cs cs' : Array Value} {T T' : TypeId} {fr fr' : Nat × Nat} (ho : w.heap[o]? = some (.cells cs T fr)) (h : w.heap[b]? = some (.cells cs' T' fr')) (hT : T' ≠ T) (hk : Kp o w w1) : w1.heap[b]? = some (.cells cs' T' fr') := by
 refine (hk.blk b (heap_lt h) ?_).trans h
 rintro rfl
 rw [ho] at h
 injection h with h
 injection h with h1 h2 h3
 exact hT h2.symm
theorem Lk.kp {w w1 : World} {o : Nat} {cs : Array Value} {fr : Nat × Nat} (ho : w.heap[o]? = some (.cells cs 98 fr)) (hk : Kp o w w1) : ∀ {l : List Bd}, Lk w l → Lk w1 l
 | [], _ => trivial
 | _ :: _, ⟨h1, h2⟩ => ⟨kp_heap ho h1 (by decide) hk, Lk.kp ho hk h2⟩
theorem TrAt.kp {w w1 : World} {o : Nat} {cs : Array Value} {fr : Nat × Nat} (ho : w.heap[o]? = some (.cells cs 98 fr)) (hk : Kp o w w1) : ∀ {t : Tr}, TrAt w t → TrAt w1 t
 | .nil, _ => trivial
 | .node _ _ _ _, ⟨h1, ⟨p, h2⟩, h3, h4⟩ => ⟨kp_heap ho h1 (by decide) hk, ⟨p, kp_heap ho h2 (by decide) hk⟩, TrAt.kp ho hk h3, TrAt.kp ho hk h4⟩
theorem ty_set {w : World} {o j : Nat} {v : Value} (h : ∃ cs, w.heap[o]? = some (.cells cs 98 (0, 0))) : ∃ cs, (w.setCell ⟨o, j, none⟩ v).heap[o]? = some (.cells cs 98 (0, 0)) := by
 obtain ⟨cs, hc⟩ := h
 refine ⟨cs.setIfInBounds j v, ?_⟩
 have := heap_lt hc
 have h2 : w.heap[o] = Obj.cells cs 98 (0, 0) := (Array.getElem?_eq_some_iff.1 hc).2
 simp [World.setCell, this, Array.getElem_modify, h2]
theorem ty_frozen {w : World} {o : Nat} (h : ∃ cs, w.heap[o]? = some (.cells cs 98 (0, 0))) (j : Nat) : w.frozen? ⟨o, j, none⟩ = false := by
 obtain ⟨cs, hc⟩ := h
 simp [World.frozen?, hc]
end Go.Proofs.Ytagkpcnedccaiaa

namespace Go.Proofs.Ytagkpcnedccaiaa
open Go.RowKit
set_option maxRecDepth 20000
set_option linter.unusedVariables false
set_option linter.unusedSimpArgs false

/-- The block that is filled: what lies there, and which bindings it has by now. -/
structure AndSt (W wr : World) (o : Nat) (l : List Bd) (t : Tr) : Prop where
 below : Below W.heap.size W wr
 lo : W.heap.size ≤ o
 ty : ∃ cs, wr.heap[o]? = some (.cells cs 98 (0, 0))
 c0 : wr.cell? ⟨o, 0, none⟩ = some (.pointer (top l))
 c1 : wr.cell? ⟨o, 1, none⟩ = some (.pointer t.ptr)
 lk : Lk wr l
 tr : TrAt wr t
 srt : Srt t.toL
 look : ∀ k, look t.toL k = look l k
 len : t.toL.length ≤ l.length
 dec : l.Pairwise (fun a b => b.lk < a.lk)
theorem AndSt.step {W wr w1 : World} {o : Nat} {l : List Bd} {t : Tr} (h : AndSt W wr o l t) (hw : Below wr.heap.size wr w1) : AndSt W w1 o l t := by
 obtain ⟨cs, hc⟩ := h.ty
 have hl := heap_lt hc
 exact ⟨h.below.trans (hw.mono h.below.size), h.lo, ⟨cs, heap_step hc hw⟩, (hw.cell (p := ⟨o, _, none⟩) hl).trans h.c0, (hw.cell (p := ⟨o, _, none⟩) hl).trans h.c1, h.lk.step hw, h.tr.step hw, h.srt, h.look, h.len, h.dec⟩
theorem AndSt.env {W wr : World} {o : Nat} {l : List Bd} {t : Tr} (h : AndSt W wr o l t) (hl : l ≠ []) : EnvAt wr (at0 o) l :=
 .inr ⟨o, t, rfl, hl, ⟨h.ty, h.c0, h.c1, h.lk, h.tr, h.srt, h.look, h.len, h.dec⟩⟩

def AndPost (w : World) (l : List Bd) (bs : List Bi) (e : Ending) (w' : World) : Prop :=
 ∃ (p' : Option Addr) (new : List Bd), e = .returned (.pointer p') ∧ EnvAt w' p' (new ++ l) ∧ new.map (·.bi) = bs.reverse ∧ (∀ b ∈ new, w.heap.size ≤ b.lk) ∧ Below w.heap.size w w'

theorem and_start (w : World) (l : List Bd) (t : Tr) (hlk : Lk w l) (ht : TrAt w t) (hs : Srt t.toL) (hk : ∀ k, look t.toL k = look l k) (hn : t.toL.length ≤ l.length) (hd : l.Pairwise (fun a b => b.lk < a.lk)) :
  AndSt w (w.alloc (.cells #[.pointer (top l), .pointer t.ptr] 98)) w.heap.size l t := by
 have hB : Below w.heap.size w (w.alloc (.cells #[.pointer (top l), .pointer t.ptr] 98)) := (Below.refl _ _).alloc (Nat.le_refl _) _
 have hnew := heap_new w (.cells #[.pointer (top l), .pointer t.ptr] 98)
 exact ⟨hB, Nat.le_refl _, ⟨_, hnew⟩, (cellH hnew 0).trans rfl, (cellH hnew 1).trans rfl, hlk.step hB, ht.step hB, hs, hk, hn, hd⟩
/-- A new link of block B behind: the links' own block is written, then the tree. -/
theorem and_link (W wr : World) (o B : Nat) (l : List Bd) (t : Tr) (b : Bi) (h : AndSt W wr o l t) (hB : B = wr.heap.size + 1) (A : Obj) :
  ∀ w1, w1 = ((wr.setCell ⟨o, 0, none⟩ (.pointer (at0 B))).alloc A).alloc (.cells #[.int .i64 b.k.1, .string b.k.2, .int .i64 b.dc, .int .i64 b.via, .pointer b.pa, .pointer b.pm, .pointer (top l)] 100) → Below W.heap.size W w1 ∧ TrAt w1 t ∧ LkC w1 ⟨b, B⟩ (top l) ∧ Lk w1 (⟨b, B⟩ :: l) ∧ (∃ cs, w1.heap[o]? = some (.cells cs 98 (0, 0))) ∧ w1.cell? ⟨o, 0, none⟩ = some (.pointer (at0 B)) ∧ w1.cell? ⟨o, 1, none⟩ = some (.pointer t.ptr) := by
 rintro w1 rfl
 obtain ⟨cs, hc⟩ := h.ty
 have ho := heap_lt hc
 have hk := Kp.set o 0 (.pointer (at0 B)) wr
 have k0 := h.c0
 have k1 := h.c1
 have s0 : (wr.setCell ⟨o, 0, none⟩ (.pointer (at0 B))).cell? ⟨o, 0, none⟩ = some (.pointer (at0 B)) := by simp [go_sem, k0]
 have s1 : (wr.setCell ⟨o, 0, none⟩ (.pointer (at0 B))).cell? ⟨o, 1, none⟩ = some (.pointer t.ptr) := by simp [go_sem, k1]
 have sb : Below W.heap.size W (wr.setCell ⟨o, 0, none⟩ (.pointer (at0 B))) := h.below.setCell h.lo _
 have st := h.tr.kp hc hk
 have sl := h.lk.kp hc hk
 obtain ⟨cs2, sy⟩ := ty_set (j := 0) (v := .pointer (at0 B)) h.ty
 have hsz : (wr.setCell ⟨o, 0, none⟩ (.pointer (at0 B))).heap.size = wr.heap.size := by simp
 generalize wr.setCell ⟨o, 0, none⟩ (.pointer (at0 B)) = ws at *
 have b1 : Below ws.heap.size ws (ws.alloc A) := (Below.refl _ _).alloc (Nat.le_refl _) _
 have b2 : Below ws.heap.size ws ((ws.alloc A).alloc (.cells #[.int .i64 b.k.1, .string b.k.2, .int .i64 b.dc, .int .i64 b.via, .pointer b.pa, .pointer b.pm, .pointer (top l)] 100)) := b1.alloc (by simp) _
 have hn := heap_new (ws.alloc A) (.cells #[.int .i64 b.k.1, .string b.k.2, .int .i64 b.dc, .int .i64 b.via, .pointer b.pa, .pointer b.pm, .pointer (top l)] 100)
 have hB2 : (ws.alloc A).heap.size = B := by simp [hsz, hB]
 rw [hB2] at hn
 have hos : o < ws.heap.size := by omega
 exact ⟨sb.trans (b2.mono sb.size), st.step b2, hn, ⟨hn, sl.step b2⟩, ⟨cs2, heap_step sy b2⟩, (b2.cell (p := ⟨o, _, none⟩) hos).trans s0, (b2.cell (p := ⟨o, _, none⟩) hos).trans s1⟩
/-- The tree is put in. -/
theorem and_tree (W w1 w2 : World) (o B : Nat) (l : List Bd) (t t' : Tr) (b : Bi) (hlk : LkC w1 ⟨b, B⟩ (top l)) (hb : Below W.heap.size W w1) (hlo : W.heap.size ≤ o) (hll : Lk w1 (⟨b, B⟩ :: l)) (ty : ∃ cs, w1.heap[o]? = some (.cells cs 98 (0, 0))) (c0 : w1.cell? ⟨o, 0, none⟩ = some (.pointer (at0 B))) (c1 : w1.cell? ⟨o, 1, none⟩ = some (.pointer t.ptr))
  (h2 : Below w1.heap.size w1 w2) (ht : TrAt w2 t') (htl : t'.toL = insL t.toL ⟨b, B⟩) (hs : Srt t.toL) (hk : ∀ k, look t.toL k = look l k) (hn : t.toL.length ≤ l.length) (hd : l.Pairwise (fun a b => b.lk < a.lk)) (hB : ∀ a ∈ l, a.lk < B) :
  AndSt W (w2.setCell ⟨o, 1, none⟩ (.pointer t'.ptr)) o (⟨b, B⟩ :: l) t' := by
 obtain ⟨cs, hc⟩ := ty
 have ho := heap_lt hc
 have hc2 := heap_step hc h2
 have kp := Kp.set o 1 (.pointer t'.ptr) w2
 have k0 : w2.cell? ⟨o, 0, none⟩ = some (.pointer (at0 B)) := (h2.cell (p := ⟨o, _, none⟩) ho).trans c0
 have k1 : w2.cell? ⟨o, 1, none⟩ = some (.pointer t.ptr) := (h2.cell (p := ⟨o, _, none⟩) ho).trans c1
 refine ⟨(hb.trans (h2.mono hb.size)).setCell hlo _, hlo, ty_set ⟨cs, hc2⟩, ?_, ?_, (hll.step h2).kp hc2 kp, ht.kp hc2 kp, ?_, ?_, ?_, ?_⟩
 ·simp [go_sem, k0, top]
 ·simp [go_sem, k1]
 ·rw [htl]; exact insL_srt _ _ hs
 ·intro k
  rw [htl, insL_look _ _ _ hs, hk k]
  simp only [look, List.find?_cons]
  by_cases hkk : (Bd.mk b B).k = k <;> simp [hkk]
 ·rw [htl]
  have := insL_len ⟨b, B⟩ t.toL
  simp only [List.length_cons]; omega
 ·exact List.pairwise_cons.2 ⟨hB, hd⟩
set_option maxHeartbeats 8000000 in
theorem and_any (w : World) (p : Option Addr) (l : List Bd) (q : Option Addr) (n c : Nat) (bs : List Bi) (h : EnvAt w p l) (hs : BS w q n c bs) (hn : l.length + n ≤ 900000) :
  Calls Try.prog 39 #[.pointer p, .slice q n c] w (AndPost w l bs) := by
 have HS := Lib.hid hs
 have HLN := Lib.hid hn
 have hn2 : n ≤ 900000 := by omega
 clear hs hn
 rcases h with ⟨rfl, rfl⟩ | ⟨g, t, rfl, hl, hr⟩
 ·have HA : Hid (AndSt w (w.alloc (.cells #[.pointer none, .pointer none] 98)) w.heap.size [] .nil) := Lib.hid (and_start w [] .nil trivial trivial List.Pairwise.nil (fun _ => rfl) (Nat.le_refl _) List.Pairwise.nil)
  obtain ⟨l, hl⟩ : ∃ l : List Bd, l = [] := ⟨_, rfl⟩
  rw [← hl] at HA HLN ⊢
  clear hl
  go_enter Try.func39, Try.ntmps39
  go_wp2_with fail
  generalize w.alloc (.cells #[.pointer none, .pointer none] 98) = w1 at *
  have HO : Hid (w.heap.size < w1.heap.size) := Lib.hid (by obtain ⟨cs, hc⟩ := HA.out.ty; exact heap_lt hc)
  go_loopw [15] (fun i wr => ∃ (k : Nat) (new : List Bd) (t' : Tr), k ≤ n ∧ i = .int .i64 k ∧ AndSt w wr w.heap.size (new ++ l) t' ∧ new.map (·.bi) = (bs.take k).reverse ∧ ∀ b ∈ new, w.heap.size ≤ b.lk) (fun i _ => n - (intOf i).toNat)
  case atStart => exact ⟨0, [], _, by omega, rfl, HA.out, by simp, by simp⟩
  case round =>
   obtain ⟨k, new, t', hk, rfl, hst, hmap, hlow⟩ := hrel
   have HST := Lib.hid hst
   have HMAP := Lib.hid hmap
   have HLOW := Lib.hid hlow
   have k0 := hst.c0
   have k1 := hst.c1
   have f0 := ty_frozen hst.ty 0
   have f1 := ty_frozen hst.ty 1
   have ho : w.heap.size < wr.heap.size := by obtain ⟨cs, hc⟩ := hst.ty; exact heap_lt hc
   clear hst hmap hlow
   by_cases hlt : k < n
   ·obtain ⟨hn1, h0 | ⟨gb, rfl, hcb, hgb, hat⟩⟩ := HS.out
    ·omega
    obtain ⟨b, hb⟩ : ∃ b, bs[k]? = some b := ⟨_, List.getElem?_eq_getElem (by omega)⟩
    have HB := Lib.hid hb
    obtain ⟨v0, v1, v2, v3, v4, v5⟩ := (hat k b hb).step hgb HST.out.below
    have hgb2 : gb < wr.heap.size := Nat.lt_of_lt_of_le hgb HST.out.below.size
    have hne : gb ≠ w.heap.size := by omega
    have r1 : (0 : Int) ≤ (k : Int) := by omega
    have r2 : (k : Int) < (n : Int) := by omega
    clear hat hb hn1
    simp only [at0]
    go_wp2_with fail
    obtain ⟨a1, a2, a3, a4, a5, a6, a7⟩ := and_link w wr w.heap.size (wr.heap.size + 1) (new ++ l) t' b HST.out rfl _ _ rfl
    simp only [at0] at a1 a2 a3 a4 a5 a6 a7
    generalize hw2 : World.alloc _ _ = w2 at a1 a2 a3 a4 a5 a6 a7 ⊢
    have HLEN : Hid (t'.toL.length + 1 ≤ 1000000 ∧ new.length = k) := Lib.hid (by
     have e1 := congrArg List.length HMAP.out
     have e2 := HST.out.len
     have e3 := HLN.out
     simp only [List.length_map, List.length_reverse, List.length_take, List.length_append] at e1 e2
     have e4 := HS.out.1
     omega)
    have A1 := Lib.hid a1
    have A3 := Lib.hid a3
    have A4 := Lib.hid a4
    have A5 := Lib.hid a5
    have A6 := Lib.hid a6
    have A7 := Lib.hid a7
    refine (with_any ⟨b, wr.heap.size + 1⟩ _ t' w2 a2 a3 HLEN.out.1 HST.out.srt).mono ?_
    clear a1 a2 a3 a4 a5 a6 a7 v0 v1 v2 v3 v4 v5 k0 k1 f0 f1
    rintro e w3 ⟨t2, rfl, ht2, hl2, hb2⟩
    have ty3 : ∃ cs, w3.heap[w.heap.size]? = some (.cells cs 98 (0, 0)) := by obtain ⟨cs, hc⟩ := A5.out; exact ⟨cs, heap_step hc hb2⟩
    have o2 : w.heap.size < w2.heap.size := by obtain ⟨cs, hc⟩ := A5.out; exact heap_lt hc
    have o3 : w.heap.size < w3.heap.size := Nat.lt_of_lt_of_le o2 hb2.size
    have g1 := ty_frozen ty3 1
    have g0 : w3.cell? ⟨w.heap.size, 1, none⟩ = some (.pointer t'.ptr) := (hb2.cell (p := ⟨w.heap.size, _, none⟩) o2).trans A7.out
    have HFIN : Hid (AndSt w (w3.setCell ⟨w.heap.size, 1, none⟩ (.pointer t2.ptr)) w.heap.size (⟨b, wr.heap.size + 1⟩ :: (new ++ l)) t2) := Lib.hid (and_tree w w2 w3 w.heap.size (wr.heap.size + 1) (new ++ l) t' t2 b A3.out A1.out (Nat.le_refl _) A4.out A5.out A6.out A7.out hb2 ht2 hl2 HST.out.srt HST.out.look HST.out.len HST.out.dec (fun a ha => by have := HST.out.lk.lt a ha; omega))
    clear ty3 ht2 hl2 hb2 hw2 o2
    go_wp2_with fail
    go_roundw
    case rel =>
     refine ⟨k + 1, ⟨b, wr.heap.size + 1⟩ :: new, t2, hlt, by go_num, HFIN.out, ?_, ?_⟩
     ·have hkb : k < bs.length := by have := HS.out.1; omega
      rw [List.map_cons, HMAP.out, List.take_add_one, HB.out]; simp
     ·intro a ha
      rcases List.mem_cons.1 ha with rfl | ha
      ·show w.heap.size ≤ wr.heap.size + 1
       omega
      ·exact HLOW.out a ha
    case measure => simp [intOf]; omega
   ·have hkn : k = n := by omega
    have HPOST : Hid (∀ p', EnvAt wr p' (new ++ l) → AndPost w l bs (.returned (.pointer p')) wr) := Lib.hid fun p' hp' => ⟨p', new, rfl, hp', by rw [HMAP.out, hkn, HS.out.1, List.take_length], HLOW.out, HST.out.below⟩
    generalize hL : new ++ l = L at *
    cases L with
    | nil =>
     simp only [top] at k0
     go_wp2_with fail
     go_ret
     exact HPOST.out none (EnvAt.nil _)
    | cons x r =>
     simp only [top, at0] at k0
     go_wp2_with fail
     go_ret
     exact HPOST.out _ (HST.out.env (by simp))
 ·have c0 := hr.c0
  have c1 := hr.c1
  have hg := hr.lt
  have HA := Lib.hid (and_start w l t hr.lk hr.tr hr.srt hr.look hr.len hr.dec)
  simp only [at0]
  clear hr
  go_enter Try.func39, Try.ntmps39
  go_wp2_with fail
  generalize w.alloc (.cells #[.pointer (top l), .pointer t.ptr] 98) = w1 at *
  clear c0 c1 hg
  have HO : Hid (w.heap.size < w1.heap.size) := Lib.hid (by obtain ⟨cs, hc⟩ := HA.out.ty; exact heap_lt hc)
  go_loopw [15] (fun i wr => ∃ (k : Nat) (new : List Bd) (t' : Tr), k ≤ n ∧ i = .int .i64 k ∧ AndSt w wr w.heap.size (new ++ l) t' ∧ new.map (·.bi) = (bs.take k).reverse ∧ ∀ b ∈ new, w.heap.size ≤ b.lk) (fun i _ => n - (intOf i).toNat)
  case atStart => exact ⟨0, [], _, by omega, rfl, HA.out, by simp, by simp⟩
  case round =>
   obtain ⟨k, new, t', hk, rfl, hst, hmap, hlow⟩ := hrel
   have HST := Lib.hid hst
   have HMAP := Lib.hid hmap
   have HLOW := Lib.hid hlow
   have k0 := hst.c0
   have k1 := hst.c1
   have f0 := ty_frozen hst.ty 0
   have f1 := ty_frozen hst.ty 1
   have ho : w.heap.size < wr.heap.size := by obtain ⟨cs, hc⟩ := hst.ty; exact heap_lt hc
   clear hst hmap hlow
   by_cases hlt : k < n
   ·obtain ⟨hn1, h0 | ⟨gb, rfl, hcb, hgb, hat⟩⟩ := HS.out
    ·omega
    obtain ⟨b, hb⟩ : ∃ b, bs[k]? = some b := ⟨_, List.getElem?_eq_getElem (by omega)⟩
    have HB := Lib.hid hb
    obtain ⟨v0, v1, v2, v3, v4, v5⟩ := (hat k b hb).step hgb HST.out.below
    have hgb2 : gb < wr.heap.size := Nat.lt_of_lt_of_le hgb HST.out.below.size
    have hne : gb ≠ w.heap.size := by omega
    have r1 : (0 : Int) ≤ (k : Int) := by omega
    have r2 : (k : Int) < (n : Int) := by omega
    clear hat hb hn1
    simp only [at0]
    go_wp2_with fail
    obtain ⟨a1, a2, a3, a4, a5, a6, a7⟩ := and_link w wr w.heap.size (wr.heap.size + 1) (new ++ l) t' b HST.out rfl _ _ rfl
    simp only [at0] at a1 a2 a3 a4 a5 a6 a7
    generalize hw2 : World.alloc _ _ = w2 at a1 a2 a3 a4 a5 a6 a7 ⊢
    have HLEN : Hid (t'.toL.length + 1 ≤ 1000000 ∧ new.length = k) := Lib.hid (by
     have e1 := congrArg List.length HMAP.out
     have e2 := HST.out.len
     have e3 := HLN.out
     simp only [List.length_map, List.length_reverse, List.length_take, List.length_append] at e1 e2
     have e4 := HS.out.1
     omega)
    have A1 := Lib.hid a1
    have A3 := Lib.hid a3
    have A4 := Lib.hid a4
    have A5 := Lib.hid a5
    have A6 := Lib.hid a6
    have A7 := Lib.hid a7
    refine (with_any ⟨b, wr.heap.size + 1⟩ _ t' w2 a2 a3 HLEN.out.1 HST.out.srt).mono ?_
    clear a1 a2 a3 a4 a5 a6 a7 v0 v1 v2 v3 v4 v5 k0 k1 f0 f1
    rintro e w3 ⟨t2, rfl, ht2, hl2, hb2⟩
    have ty3 : ∃ cs, w3.heap[w.heap.size]? = some (.cells cs 98 (0, 0)) := by obtain ⟨cs, hc⟩ := A5.out; exact ⟨cs, heap_step hc hb2⟩
    have o2 : w.heap.size < w2.heap.size := by obtain ⟨cs, hc⟩ := A5.out; exact heap_lt hc
    have o3 : w.heap.size < w3.heap.size := Nat.lt_of_lt_of_le o2 hb2.size
    have g1 := ty_frozen ty3 1
    have g0 : w3.cell? ⟨w.heap.size, 1, none⟩ = some (.pointer t'.ptr) := (hb2.cell (p := ⟨w.heap.size, _, none⟩) o2).trans A7.out
    have HFIN : Hid (AndSt w (w3.setCell ⟨w.heap.size, 1, none⟩ (.pointer t2.ptr)) w.heap.size (⟨b, wr.heap.size + 1⟩ :: (new ++ l)) t2) := Lib.hid (and_tree w w2 w3 w.heap.size (wr.heap.size + 1) (new ++ l) t' t2 b A3.out A1.out (Nat.le_refl _) A4.out A5.out A6.out A7.out hb2 ht2 hl2 HST.out.srt HST.out.look HST.out.len HST.out.dec (fun a ha => by have := HST.out.lk.lt a ha; omega))
    clear ty3 ht2 hl2 hb2 hw2 o2
    go_wp2_with fail
    go_roundw
    case rel =>
     refine ⟨k + 1, ⟨b, wr.heap.size + 1⟩ :: new, t2, hlt, by go_num, HFIN.out, ?_, ?_⟩
     ·have hkb : k < bs.length := by have := HS.out.1; omega
      rw [List.map_cons, HMAP.out, List.take_add_one, HB.out]; simp
     ·intro a ha
      rcases List.mem_cons.1 ha with rfl | ha
      ·show w.heap.size ≤ wr.heap.size + 1
       omega
      ·exact HLOW.out a ha
    case measure => simp [intOf]; omega
   ·have hkn : k = n := by omega
    have HPOST : Hid (∀ p', EnvAt wr p' (new ++ l) → AndPost w l bs (.returned (.pointer p')) wr) := Lib.hid fun p' hp' => ⟨p', new, rfl, hp', by rw [HMAP.out, hkn, HS.out.1, List.take_length], HLOW.out, HST.out.below⟩
    generalize hL : new ++ l = L at *
    cases L with
    | nil =>
     simp only [top] at k0
     go_wp2_with fail
     go_ret
     exact HPOST.out none (EnvAt.nil _)
    | cons x r =>
     simp only [top, at0] at k0
     go_wp2_with fail
     go_ret
     exact HPOST.out _ (HST.out.env (by simp))
end Go.Proofs.Ytagkpcnedccaiaa
