/-
  A map from numbers to rows of numbers that grow: what one more number does.
-/
import Derived.Test.YtggoajpemffbiaaNew
import Derived.Deep.AppendLies
import Derived.Deep.RegionLaw
import Derived.BigRegion
namespace Go.Proofs.Ytggoajpemffbiaa
open Go.RowKit
set_option maxRecDepth 20000
set_option linter.unusedVariables false
set_option linter.unusedSimpArgs false

/-- The row of a number. -/
def gv (L : IV) (x : Int) : Value := (lkm L x).getD (.slice none 0 0)
theorem gv_up (L : IV) (a c : Int) (v : Value) : gv (upm L a v) c = if a = c then v else gv L c := by
  unfold gv; rw [lkm_up]; split <;> rfl
structure Grp (w : World) (base nb : Nat) (L : IV) (f : Int → List Int) : Prop where
  map : MapI w nb L
  own : ∀ x, OwnI w base (gv L x) (f x)
  apart : ∀ x y, x ≠ y → (gv L x).ownBlock = none ∨ (gv L x).ownBlock ≠ (gv L y).ownBlock
  lo : base ≤ nb
theorem Grp.step {w w1 : World} {base nb : Nat} {L : IV} {f : Int → List Int} (h : Grp w base nb L f) (hw : Below w.heap.size w w1) : Grp w1 base nb L f :=
  ⟨h.map.step hw, fun x => (h.own x).step hw, h.apart, h.lo⟩
theorem Grp.start (w : World) (base : Nat) (hb : base ≤ w.heap.size) : Grp (w.alloc (.map #[] 0)) base w.heap.size [] (fun _ => []) :=
  ⟨MapI.made w, fun x => OwnI.nil _ _, fun x y _ => .inl rfl, hb⟩
theorem OwnI.lt {w : World} {base : Nat} {v : Value} {l : List Int} (h : OwnI w base v l) {g : Nat} (hg : v.ownBlock = some g) : base ≤ g ∧ g < w.heap.size := World.ownsRow.lt h g hg
theorem OwnI.cells {w : World} {base : Nat} {v : Value} {l : List Int} (h : OwnI w base v l) {g : Nat} (hg : v.ownBlock = some g) : ∃ cs, w.heap[g]? = some (.cells cs 3 (0, 0)) := by
  obtain ⟨_, ⟨h0, _⟩ | ⟨g', c, cur, hv, _, hgg, _⟩⟩ := h
  · rw [h0] at hg; simp [Value.ownBlock] at hg
  · rw [hv] at hg
    simp only [Value.ownBlock, Option.some.injEq] at hg
    subst hg; exact ⟨_, hgg⟩
theorem OwnI.kept {w w1 : World} {base : Nat} {v : Value} {l : List Int} {row : Option Nat} (h : OwnI w base v l) (hg : w.grownBy w1 row) (hv : v.ownBlock = none ∨ v.ownBlock ≠ row) : OwnI w1 base v l := by
  obtain ⟨hl, h0 | ⟨g, c, cur, hv', hb, hgg, hr⟩⟩ := h
  · exact ⟨hl, .inl h0⟩
  · refine ⟨hl, .inr ⟨g, c, cur, hv', hb, (hg.block g (heap_lt hgg) ?_).trans hgg, hr⟩⟩
    subst hv'
    rcases hv with h | h
    · simp [Value.ownBlock] at h
    · exact h
/-- Blocks of another kind than numbers' and maps' stay. -/
def Ko (w w' : World) : Prop := ∀ (b : Nat) (cs : Array Value) (T : TypeId) (fr : Nat × Nat), T ≠ 3 → w.heap[b]? = some (Obj.cells cs T fr) → w'.heap[b]? = some (Obj.cells cs T fr)
theorem Ko.trans {a b c : World} (h : Ko a b) (k : Ko b c) : Ko a c := fun x cs T fr n e => k x cs T fr n (h x cs T fr n e)
theorem Ko.below {w w1 : World} (h : Below w.heap.size w w1) : Ko w w1 := fun b cs T fr _ hb => heap_step hb h
theorem Ko.refl (w : World) : Ko w w := fun _ _ _ _ _ h => h
/-- One number more. -/
structure Pushed (w : World) (base nb : Nat) (L : IV) (f : Int → List Int) (a b : Int) (v' : Value) (w2 w3 : World) : Prop where
  app : (Builtin.append_ #[22, 22] 22 #[gv L a, .slice (some ⟨w.heap.size, 0, none⟩) 1 1]).run Try.prog (w.alloc (.cells #[.int .i64 b] 3)) = .ok v' w2
  upd : (Instr.mapUpdate 59 (.map (some nb)) (.int .i64 a) v').run Try.prog w2 = .ok () w3
  grp : Grp w3 base nb (upm L a v') (fun x => if a = x then f a ++ [b] else f x)
  bel : ∀ N W, N ≤ base → Below N W w → Below N W w3
  ko : Ko w w3
  ko2 : Ko w w2
theorem zero22 (w : World) : (zeroValue 22).run Try.prog w = .ok (.slice none 0 0) w := by kernel_rfl
theorem Grp.look {w : World} {base nb : Nat} {L : IV} {f : Int → List Int} (h : Grp w base nb L f) {a : Int} (ha : W64 a) : (Instr.lookup 59 (.map (some nb)) (.int .i64 a) false).run Try.prog w = .ok (gv L a) w := by
  have := MapI.look Try.underlying59 h.map ha (zero22 w) false
  rw [this]; rfl
theorem Grp.push {w : World} {base nb : Nat} {L : IV} {f : Int → List Int} (h : Grp w base nb L f) {a : Int} (ha : W64 a) (b : Int) (hb : base ≤ w.heap.size) (hl : (f a).length ≤ 1000) :
    ∃ v' w2 w3, Pushed w base nb L f a b v' w2 w3 := by
  obtain ⟨i3, hi3, hz0, hz1, hz2⟩ := info_parts info3
  have hb1 : Below w.heap.size w (w.alloc (.cells #[.int .i64 b] 3)) := (Below.refl _ _).alloc (Nat.le_refl _) _
  have hz : (w.alloc (.cells #[.int .i64 b] 3)).heap.size = w.heap.size + 1 := by simp
  have h1 := h.step hb1
  have hnew := one_new w (.int .i64 b) 3
  obtain ⟨g, c, w2, hr, ho, hg, hat, hlt⟩ := run_append_lies (P := Try.prog) (w.alloc (.cells #[.int .i64 b] 3)) 22 22 base 3 i3 (.int .i64 0) 1 8 Try.underlying22 hi3 hz0 hz1 hz2 rfl (by omega) _ _ _ (h1.own a) ⟨w.heap.size, 0, none⟩ 1 1 [.int .i64 b] rfl hnew (one_cell _ _) (by omega) (by unfold maxLen; omega) (by omega) (by omega) _ rfl
  have ho' : OwnI w2 base (.slice (some ⟨g, 0, none⟩) ((f a).length + 1) c) (f a ++ [b]) := OwnI.snoc ho
  have hgn : ∀ x, a ≠ x → (gv L x).ownBlock = none ∨ (gv L x).ownBlock ≠ some g := fun x hx => by
    cases hv : (gv L x).ownBlock with
    | none => exact .inl rfl
    | some k =>
      right
      rintro e
      cases e
      have hk := (h.own x).lt hv
      rcases hat with e | e
      · rcases h.apart a x hx with e2 | e2
        · rw [e2] at e; cases e
        · exact e2 (by rw [e, hv])
      · omega
  have hnbr : (gv L a).ownBlock ≠ some nb := fun e => by
    obtain ⟨cs, hc⟩ := (h1.own a).cells e
    exact h1.map.nocell hc
  have hm2 : MapI w2 nb L := h1.map.at (hg.block nb h1.map.lt (fun e => hnbr e.symm))
  obtain ⟨w3, hu, hm3, hw3⟩ := MapI.upd Try.underlying59 hm2 ha (.slice (some ⟨g, 0, none⟩) ((f a).length + 1) c)
  have hown2 : ∀ x, a ≠ x → OwnI w2 base (gv L x) (f x) := fun x hx => (h1.own x).kept hg (by
    rcases h.apart x a (fun e => hx e.symm) with e | e
    · exact .inl e
    · exact .inr e)
  have hko2 : Ko w w2 := fun k cs T fr hT hk => by
    have e1 : (w.alloc (.cells #[.int .i64 b] 3)).heap[k]? = some (.cells cs T fr) := heap_step hk hb1
    exact (hg.block k (heap_lt e1) (fun e => by
      obtain ⟨cs2, hc⟩ := (h1.own a).cells e.symm
      rw [e1] at hc; injection hc with hc; injection hc with _ hc _; exact hT hc)).trans e1
  refine ⟨_, w2, w3, hr, hu, ⟨hm3, fun x => ?_, fun x y hxy => ?_, h.lo⟩, fun N W hN hB => ?_, ?_, hko2⟩
  · rw [gv_up]
    by_cases hx : a = x
    · subst hx
      simp only [if_true]
      refine ho'.wr ?_ hw3
      rintro e
      obtain ⟨cs, hc⟩ := ho'.cells e
      exact hm2.nocell hc
    · simp only [if_neg hx]
      refine (hown2 x hx).wr ?_ hw3
      rintro e
      obtain ⟨cs, hc⟩ := (hown2 x hx).cells e
      exact hm2.nocell hc
  · rw [gv_up, gv_up]
    by_cases hx : a = x
    · subst hx
      rw [if_pos rfl, if_neg hxy]
      rcases hgn y hxy with e | e
      · right; rw [e]; simp [Value.ownBlock]
      · right; exact fun e2 => e e2.symm
    · rw [if_neg hx]
      by_cases hy : a = y
      · subst hy; rw [if_pos rfl]; exact hgn x hx
      · rw [if_neg hy]; exact h.apart x y hxy
  · exact hw3.bel N W (by have := h.lo; omega) ((hB.alloc (by omega) _).grown hg (by omega) (fun j hj => Nat.le_trans hN ((h1.own a).lt hj).1))
  · intro k cs T fr hT hk
    have e2 := hko2 k cs T fr hT hk
    refine (hw3.blk k ?_).trans e2
    rintro rfl
    exact hm2.nocell e2
end Go.Proofs.Ytggoajpemffbiaa
