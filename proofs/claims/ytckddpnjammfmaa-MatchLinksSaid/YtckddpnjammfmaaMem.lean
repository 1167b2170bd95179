/-
  How links, trees and environments lie in memory; nothing of them is written again.
-/
import Derived.Test.YtckddpnjammfmaaOrd
namespace Go.Proofs.Ytckddpnjammfmaa
open Go.RowKit
set_option maxRecDepth 20000
set_option linter.unusedVariables false
set_option linter.unusedSimpArgs false

theorem cellH {w : World} {b : Nat} {cs : Array Value} {T : TypeId} {fr : Nat × Nat} (hb : w.heap[b]? = some (.cells cs T fr)) (j : Nat) : w.cell? ⟨b, j, none⟩ = cs[j]? := by
  simp [World.cell?, hb]
theorem heap_lt {w : World} {b : Nat} {o : Obj} (hb : w.heap[b]? = some o) : b < w.heap.size := (Array.getElem?_eq_some_iff.1 hb).1
theorem heap_step {w w1 : World} {b : Nat} {o : Obj} (hb : w.heap[b]? = some o) (h : Below w.heap.size w w1) : w1.heap[b]? = some o := (h.block b (heap_lt hb)).trans hb
theorem heap_new (w : World) (o : Obj) : (w.alloc o).heap[w.heap.size]? = some o := by
  show (w.heap.push o)[w.heap.size]? = some o
  simp

def keyV (k : Ky) : Value := .agg #[.int .i64 k.1, .string k.2]
def itemV (b : Bi) : Value := .agg #[.int .i64 b.dc, .int .i64 b.via, .pointer b.pa, .pointer b.pm]
def biV (b : Bi) : Value := .agg #[.int .i64 b.k.1, .string b.k.2, .int .i64 b.dc, .int .i64 b.via, .pointer b.pa, .pointer b.pm]
def at0 (g : Nat) : Option Addr := some ⟨g, 0, none⟩
/-- The youngest link. -/
def top : List Bd → Option Addr
  | [] => none
  | b :: _ => at0 b.lk
/-- A link's block, and the link ahead of it. -/
def LkC (w : World) (b : Bd) (p : Option Addr) : Prop :=
  w.heap[b.lk]? = some (.cells #[.int .i64 b.bi.k.1, .string b.bi.k.2, .int .i64 b.bi.dc, .int .i64 b.bi.via, .pointer b.bi.pa, .pointer b.bi.pm, .pointer p] 100 (0, 0))
theorem LkC.step {w w1 : World} {b : Bd} {p : Option Addr} (h : LkC w b p) (hw : Below w.heap.size w w1) : LkC w1 b p := heap_step h hw
structure LkR (w : World) (b : Bd) (p : Option Addr) : Prop where
  c0 : w.cell? ⟨b.lk, 0, none⟩ = some (.int .i64 b.bi.k.1)
  c1 : w.cell? ⟨b.lk, 1, none⟩ = some (.string b.bi.k.2)
  c2 : w.cell? ⟨b.lk, 2, none⟩ = some (.int .i64 b.bi.dc)
  c3 : w.cell? ⟨b.lk, 3, none⟩ = some (.int .i64 b.bi.via)
  c4 : w.cell? ⟨b.lk, 4, none⟩ = some (.pointer b.bi.pa)
  c5 : w.cell? ⟨b.lk, 5, none⟩ = some (.pointer b.bi.pm)
  c6 : w.cell? ⟨b.lk, 6, none⟩ = some (.pointer p)
theorem LkC.out {w : World} {b : Bd} {p : Option Addr} (h : LkC w b p) : LkR w b p :=
  ⟨(cellH h 0).trans rfl, (cellH h 1).trans rfl, (cellH h 2).trans rfl, (cellH h 3).trans rfl, (cellH h 4).trans rfl, (cellH h 5).trans rfl, (cellH h 6).trans rfl⟩
/-- Links, the youngest first. -/
def Lk (w : World) : List Bd → Prop
  | [] => True
  | b :: r => LkC w b (top r) ∧ Lk w r
theorem Lk.step {w w1 : World} (hw : Below w.heap.size w w1) : ∀ {l : List Bd}, Lk w l → Lk w1 l
  | [], _ => trivial
  | _ :: _, ⟨h1, h2⟩ => ⟨h1.step hw, Lk.step hw h2⟩
theorem Lk.lt {w : World} : ∀ {l : List Bd}, Lk w l → ∀ b ∈ l, b.lk < w.heap.size
  | [], _, _, h => by cases h
  | x :: r, ⟨h1, h2⟩, b, hb => by
    rcases List.mem_cons.1 hb with rfl | hb
    · exact heap_lt h1
    · exact Lk.lt h2 b hb
theorem Lk.drop {w : World} : ∀ {l : List Bd} (i : Nat), Lk w l → Lk w (l.drop i)
  | _, 0, h => h
  | [], i + 1, h => by simpa using h
  | _ :: _, i + 1, h => Lk.drop i h.2
theorem Lk.mem {w : World} : ∀ {l : List Bd}, Lk w l → ∀ b ∈ l, ∃ p, LkC w b p
  | [], _, _, h => by cases h
  | x :: r, ⟨h1, h2⟩, b, hb => by
    rcases List.mem_cons.1 hb with rfl | hb
    · exact ⟨_, h1⟩
    · exact Lk.mem h2 b hb

/-- A tree of links. -/
inductive Tr where
  | nil
  | node (b : Bd) (l r : Tr) (g : Nat)
def Tr.ptr : Tr → Option Addr
  | .nil => none
  | .node _ _ _ g => at0 g
def Tr.ht : Tr → Nat
  | .nil => 0
  | .node _ l r _ => 1 + max l.ht r.ht
def Tr.toL : Tr → List Bd
  | .nil => []
  | .node b l r _ => l.toL ++ b :: r.toL
theorem Tr.ht_le : ∀ t : Tr, t.ht ≤ t.toL.length
  | .nil => by simp [Tr.ht, Tr.toL]
  | .node b l r g => by
    have := Tr.ht_le l
    have := Tr.ht_le r
    simp only [Tr.ht, Tr.toL, List.length_append, List.length_cons]
    omega
def NdC (w : World) (b : Bd) (l r : Tr) (g : Nat) : Prop :=
  w.heap[g]? = some (.cells #[.pointer (at0 b.lk), .pointer l.ptr, .pointer r.ptr, .int .i64 ((1 + max l.ht r.ht : Nat) : Int)] 120 (0, 0))
structure NdR (w : World) (b : Bd) (l r : Tr) (g : Nat) : Prop where
  c0 : w.cell? ⟨g, 0, none⟩ = some (.pointer (at0 b.lk))
  c1 : w.cell? ⟨g, 1, none⟩ = some (.pointer l.ptr)
  c2 : w.cell? ⟨g, 2, none⟩ = some (.pointer r.ptr)
  c3 : w.cell? ⟨g, 3, none⟩ = some (.int .i64 ((1 + max l.ht r.ht : Nat) : Int))
theorem NdC.out {w : World} {b : Bd} {l r : Tr} {g : Nat} (h : NdC w b l r g) : NdR w b l r g :=
  ⟨(cellH h 0).trans rfl, (cellH h 1).trans rfl, (cellH h 2).trans rfl, (cellH h 3).trans rfl⟩
def TrAt (w : World) : Tr → Prop
  | .nil => True
  | .node b l r g => NdC w b l r g ∧ (∃ p, LkC w b p) ∧ TrAt w l ∧ TrAt w r
theorem TrAt.step {w w1 : World} (hw : Below w.heap.size w w1) : ∀ {t : Tr}, TrAt w t → TrAt w1 t
  | .nil, _ => trivial
  | .node _ _ _ _, ⟨h1, ⟨p, h2⟩, h3, h4⟩ => ⟨heap_step h1 hw, ⟨p, h2.step hw⟩, TrAt.step hw h3, TrAt.step hw h4⟩
theorem NdC.step {w w1 : World} {b : Bd} {l r : Tr} {g : Nat} (h : NdC w b l r g) (hw : Below w.heap.size w w1) : NdC w1 b l r g := heap_step h hw

theorem height_any (t : Tr) (w : World) (h : TrAt w t) : Calls Try.prog 72 #[.pointer t.ptr] w fun e w' => e = .returned (.int .i64 (t.ht : Nat)) ∧ w = w' := by
  cases t with
  | nil =>
    simp only [Tr.ptr]
    go_enter Try.func72, Try.ntmps72
    go_wp2
    go_ret
    exact ⟨rfl, rfl⟩
  | node b l r g =>
    have h3 := h.1.out.c3
    simp only [Tr.ptr, at0]
    have hE : Hid (((1 + max l.ht r.ht : Nat) : Int) = ((Tr.node b l r g).ht : Nat)) := Lib.hid rfl
    generalize ((1 + max l.ht r.ht : Nat) : Int) = H at *
    clear h
    go_enter Try.func72, Try.ntmps72
    go_wp2
    go_ret
    exact ⟨ret_int hE.out, rfl⟩

/-- What makes a node leaves. -/
def Made (L : List Bd) (w : World) (e : Ending) (w' : World) : Prop := ∃ t : Tr, e = .returned (.pointer t.ptr) ∧ TrAt w' t ∧ t.toL = L ∧ Below w.heap.size w w'
set_option maxHeartbeats 4000000 in
theorem join_node (l r : Tr) (b : Bd) (p : Option Addr) (w : World) (hl : TrAt w l) (hr : TrAt w r) (hb : LkC w b p) (hn : (l.toL ++ b :: r.toL).length ≤ 1000000) :
    Calls Try.prog 62 #[.pointer l.ptr, .pointer (at0 b.lk), .pointer r.ptr] w fun e w' => ∃ g, e = .returned (.pointer (at0 g)) ∧ TrAt w' (.node b l r g) ∧ Below w.heap.size w w' ∧ g = w.heap.size := by
  have hl2 := Tr.ht_le l
  have hr2 := Tr.ht_le r
  have HL := Lib.hid hl
  have HR := Lib.hid hr
  have HB := Lib.hid hb
  have E1 := Lib.hid (height_any l w hl)
  have E2 := Lib.hid (height_any r w hr)
  simp only [List.length_append, List.length_cons] at hn
  have h1 : l.ht ≤ 1000000 := by omega
  have h2 : r.ht ≤ 1000000 := by omega
  clear hl hr hb hn hl2 hr2
  by_cases hm : l.ht < r.ht
  · have hmx : Hid (1 + max l.ht r.ht = 1 + r.ht) := Lib.hid (by omega)
    have hmi : max ((l.ht : Nat) : Int) (r.ht : Nat) = (r.ht : Nat) := by omega
    have FIN : Hid (∀ w' : World, w' = w.alloc (.cells #[.pointer (at0 b.lk), .pointer l.ptr, .pointer r.ptr, .int .i64 ((1 + r.ht : Nat) : Int)] 120) → TrAt w' (.node b l r w.heap.size) ∧ Below w.heap.size w w') := Lib.hid (by
      rintro w' rfl
      have hB : Below w.heap.size w (w.alloc (.cells #[.pointer (at0 b.lk), .pointer l.ptr, .pointer r.ptr, .int .i64 ((1 + r.ht : Nat) : Int)] 120)) := (Below.refl _ _).alloc (Nat.le_refl _) _
      exact ⟨⟨by unfold NdC; rw [hmx.out]; exact heap_new _ _, ⟨p, HB.out.step hB⟩, HL.out.step hB, HR.out.step hB⟩, hB⟩)
    clear hmx
    generalize l.ptr = lp at *
    generalize r.ptr = rp at *
    generalize at0 b.lk = bp at *
    generalize l.ht = lh at *
    generalize r.ht = rh at *
    go_enter Try.func62, Try.ntmps62
    go_wp2_with (first | (go_at_call 72; refine E1.out.mono ?_; rintro e wp ⟨rfl, rfl⟩) | (go_at_call 72; refine E2.out.mono ?_; rintro e wp ⟨rfl, rfl⟩))
    go_ret
    obtain ⟨f1, f2⟩ := FIN.out _ rfl
    exact ⟨_, rfl, f1, f2, rfl⟩
  · have hm : r.ht ≤ l.ht := by omega
    have hmx : Hid (1 + max l.ht r.ht = 1 + l.ht) := Lib.hid (by omega)
    have hmi : max ((l.ht : Nat) : Int) (r.ht : Nat) = (l.ht : Nat) := by omega
    have FIN : Hid (∀ w' : World, w' = w.alloc (.cells #[.pointer (at0 b.lk), .pointer l.ptr, .pointer r.ptr, .int .i64 ((1 + l.ht : Nat) : Int)] 120) → TrAt w' (.node b l r w.heap.size) ∧ Below w.heap.size w w') := Lib.hid (by
      rintro w' rfl
      have hB : Below w.heap.size w (w.alloc (.cells #[.pointer (at0 b.lk), .pointer l.ptr, .pointer r.ptr, .int .i64 ((1 + l.ht : Nat) : Int)] 120)) := (Below.refl _ _).alloc (Nat.le_refl _) _
      exact ⟨⟨by unfold NdC; rw [hmx.out]; exact heap_new _ _, ⟨p, HB.out.step hB⟩, HL.out.step hB, HR.out.step hB⟩, hB⟩)
    clear hmx
    generalize l.ptr = lp at *
    generalize r.ptr = rp at *
    generalize at0 b.lk = bp at *
    generalize l.ht = lh at *
    generalize r.ht = rh at *
    go_enter Try.func62, Try.ntmps62
    go_wp2_with (first | (go_at_call 72; refine E1.out.mono ?_; rintro e wp ⟨rfl, rfl⟩) | (go_at_call 72; refine E2.out.mono ?_; rintro e wp ⟨rfl, rfl⟩))
    go_ret
    obtain ⟨f1, f2⟩ := FIN.out _ rfl
    exact ⟨_, rfl, f1, f2, rfl⟩
end Go.Proofs.Ytckddpnjammfmaa
