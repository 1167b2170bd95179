/-
  How an environment lies in memory, and rows of bindings; what is bound behind it (and).
-/
import Derived.Test.YtpgmlagkpigdjaaIns
import Derived.OwnWalk
namespace Go.Proofs.Ytpgmlagkpigdjaa
open Go.RowKit
set_option maxRecDepth 20000
set_option linter.unusedVariables false
set_option linter.unusedSimpArgs false

/-- Binding i of a row. -/
structure BiAt (w : World) (g i : Nat) (b : Bi) : Prop where
  c0 : w.cell? ⟨g, i * 6, none⟩ = some (.int .i64 b.k.1)
  c1 : w.cell? ⟨g, i * 6 + 1, none⟩ = some (.string b.k.2)
  c2 : w.cell? ⟨g, i * 6 + 2, none⟩ = some (.int .i64 b.dc)
  c3 : w.cell? ⟨g, i * 6 + 3, none⟩ = some (.int .i64 b.via)
  c4 : w.cell? ⟨g, i * 6 + 4, none⟩ = some (.pointer b.pa)
  c5 : w.cell? ⟨g, i * 6 + 5, none⟩ = some (.pointer b.pm)
theorem BiAt.step {w w1 : World} {g i : Nat} {b : Bi} (h : BiAt w g i b) (hg : g < w.heap.size) (hw : Below w.heap.size w w1) : BiAt w1 g i b :=
  ⟨(hw.cell (p := ⟨g, _, none⟩) hg).trans h.c0, (hw.cell (p := ⟨g, _, none⟩) hg).trans h.c1, (hw.cell (p := ⟨g, _, none⟩) hg).trans h.c2, (hw.cell (p := ⟨g, _, none⟩) hg).trans h.c3, (hw.cell (p := ⟨g, _, none⟩) hg).trans h.c4, (hw.cell (p := ⟨g, _, none⟩) hg).trans h.c5⟩
/-- A row of bindings. -/
def BS (w : World) (q : Option Addr) (n c : Nat) (bs : List Bi) : Prop :=
  n = bs.length ∧ (n = 0 ∨ ∃ g, q = at0 g ∧ n ≤ c ∧ g < w.heap.size ∧ ∀ i b, bs[i]? = some b → BiAt w g i b)
theorem BS.step {w w1 : World} {q : Option Addr} {n c : Nat} {bs : List Bi} (h : BS w q n c bs) (hw : Below w.heap.size w w1) : BS w1 q n c bs := by
  obtain ⟨hn, h0 | ⟨g, hq, hc, hg, hat⟩⟩ := h
  · exact ⟨hn, .inl h0⟩
  · exact ⟨hn, .inr ⟨g, hq, hc, Nat.lt_of_lt_of_le hg hw.size, fun i b hi => (hat i b hi).step hg hw⟩⟩

/-- An environment's own block, of bindings l (the youngest first), with its tree. -/
structure EnvR (w : World) (g : Nat) (l : List Bd) (t : Tr) : Prop where
  ty : ∃ cs, w.heap[g]? = some (.cells cs 57 (0, 0))
  c0 : w.cell? ⟨g, 0, none⟩ = some (.pointer (top l))
  c1 : w.cell? ⟨g, 1, none⟩ = some (.pointer t.ptr)
  lk : Lk w l
  tr : TrAt w t
  srt : Srt t.toL
  look : ∀ k, look t.toL k = look l k
  len : t.toL.length ≤ l.length
  dec : l.Pairwise (fun a b => b.lk < a.lk)
theorem EnvR.lt {w : World} {g : Nat} {l : List Bd} {t : Tr} (h : EnvR w g l t) : g < w.heap.size := by
  obtain ⟨cs, hc⟩ := h.ty; exact heap_lt hc
theorem EnvR.step {w w1 : World} {g : Nat} {l : List Bd} {t : Tr} (h : EnvR w g l t) (hw : Below w.heap.size w w1) : EnvR w1 g l t := by
  have hl := h.lt
  obtain ⟨cs, hc⟩ := h.ty
  exact ⟨⟨cs, heap_step hc hw⟩, (hw.cell (p := ⟨g, _, none⟩) hl).trans h.c0, (hw.cell (p := ⟨g, _, none⟩) hl).trans h.c1, h.lk.step hw, h.tr.step hw, h.srt, h.look, h.len, h.dec⟩
/-- An environment of bindings l, the youngest first. -/
def EnvAt (w : World) (p : Option Addr) (l : List Bd) : Prop := (p = none ∧ l = []) ∨ ∃ g t, p = at0 g ∧ l ≠ [] ∧ EnvR w g l t
theorem EnvAt.step {w w1 : World} {p : Option Addr} {l : List Bd} (h : EnvAt w p l) (hw : Below w.heap.size w w1) : EnvAt w1 p l := by
  rcases h with h | ⟨g, t, hp, hl, hr⟩
  · exact .inl h
  · exact .inr ⟨g, t, hp, hl, hr.step hw⟩
theorem EnvAt.nil (w : World) : EnvAt w none [] := .inl ⟨rfl, rfl⟩
theorem EnvAt.lk {w : World} {p : Option Addr} {l : List Bd} (h : EnvAt w p l) : Lk w l := by
  rcases h with ⟨_, rfl⟩ | ⟨g, t, hp, hl, hr⟩
  · exact trivial
  · exact hr.lk
theorem EnvAt.dec {w : World} {p : Option Addr} {l : List Bd} (h : EnvAt w p l) : l.Pairwise (fun a b => b.lk < a.lk) := by
  rcases h with ⟨_, rfl⟩ | ⟨g, t, hp, hl, hr⟩
  · exact List.Pairwise.nil
  · exact hr.dec

/-- Nothing but block o has turned. -/
structure Kp (o : Nat) (w w' : World) : Prop where
  size : w.heap.size ≤ w'.heap.size
  blk : ∀ k, k < w.heap.size → k ≠ o → w'.heap[k]? = w.heap[k]?
theorem Kp.set (o j : Nat) (v : Value) (w : World) : Kp o w (w.setCell ⟨o, j, none⟩ v) := ⟨by simp, fun k _ hk => Below.heap_setCell w ⟨o, j, none⟩ v k hk⟩
theorem kp_heap {w w1 : World} {o b : Nat} {cs cs' : Array Value} {T T' : TypeId} {fr fr' : Nat × Nat} (ho : w.heap[o]? = some (.cells cs T fr)) (h : w.heap[b]? = some (.cells cs' T' fr')) (hT : T' ≠ T) (hk : Kp o w w1) : w1.heap[b]? = some (.cells cs' T' fr') := by
  refine (hk.blk b (heap_lt h) ?_).trans h
  rintro rfl
  rw [ho] at h
  injection h with h
  injection h with h1 h2 h3
  exact hT h2.symm
theorem Lk.kp {w w1 : World} {o : Nat} {cs : Array Value} {fr : Nat × Nat} (ho : w.heap[o]? = some (.cells cs 57 fr)) (hk : Kp o w w1) : ∀ {l : List Bd}, Lk w l → Lk w1 l
  | [], _ => trivial
  | _ :: _, ⟨h1, h2⟩ => ⟨kp_heap ho h1 (by decide) hk, Lk.kp ho hk h2⟩
theorem TrAt.kp {w w1 : World} {o : Nat} {cs : Array Value} {fr : Nat × Nat} (ho : w.heap[o]? = some (.cells cs 57 fr)) (hk : Kp o w w1) : ∀ {t : Tr}, TrAt w t → TrAt w1 t
  | .nil, _ => trivial
  | .node _ _ _ _, ⟨h1, ⟨p, h2⟩, h3, h4⟩ => ⟨kp_heap ho h1 (by decide) hk, ⟨p, kp_heap ho h2 (by decide) hk⟩, TrAt.kp ho hk h3, TrAt.kp ho hk h4⟩
theorem ty_set {w : World} {o j : Nat} {v : Value} (h : ∃ cs, w.heap[o]? = some (.cells cs 57 (0, 0))) : ∃ cs, (w.setCell ⟨o, j, none⟩ v).heap[o]? = some (.cells cs 57 (0, 0)) := by
  obtain ⟨cs, hc⟩ := h
  refine ⟨cs.setIfInBounds j v, ?_⟩
  have := heap_lt hc
  have h2 : w.heap[o] = Obj.cells cs 57 (0, 0) := (Array.getElem?_eq_some_iff.1 hc).2
  simp [World.setCell, this, Array.getElem_modify, h2]
theorem ty_frozen {w : World} {o : Nat} (h : ∃ cs, w.heap[o]? = some (.cells cs 57 (0, 0))) (j : Nat) : w.frozen? ⟨o, j, none⟩ = false := by
  obtain ⟨cs, hc⟩ := h
  simp [World.frozen?, hc]
end Go.Proofs.Ytpgmlagkpigdjaa
