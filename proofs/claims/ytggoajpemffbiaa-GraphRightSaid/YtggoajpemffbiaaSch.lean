/-
  A search along pairs: where it stands, what is so of what it has met.
-/
import Derived.Test.YtggoajpemffbiaaNbs
import Derived.Test.YtggoajpemffbiaaRlk
namespace Go.Proofs.Ytggoajpemffbiaa
open Go.RowKit
set_option maxRecDepth 20000
set_option linter.unusedVariables false
set_option linter.unusedSimpArgs false

theorem nodup_sub_len : ∀ {ks U : List Int}, ks.Nodup → (∀ x ∈ ks, x ∈ U) → ks.length ≤ U.length
  | [], _, _, _ => Nat.zero_le _
  | x :: r, U, h, hs => by
    obtain ⟨h1, h2⟩ := List.nodup_cons.1 h
    have hx := hs x (by simp)
    have := nodup_sub_len (ks := r) (U := U.erase x) h2 fun y hy => by
      refine (List.mem_erase_of_ne (fun e => h1 (by rw [← e]; exact hy))).2 (hs y (by simp [hy]))
    rw [List.length_erase_of_mem hx] at this
    have : 0 < U.length := List.length_pos_of_mem hx
    simp only [List.length_cons]; omega
/-- The numbers that may be met. -/
def univ (l : List P2) (a : Int) : List Int := a :: l.flatMap fun p => [p.1, p.2]
theorem univ_len (l : List P2) (a : Int) : (univ l a).length = 2 * l.length + 1 := by
  unfold univ
  induction l with
  | nil => rfl
  | cons p r ih => simp at ih ⊢; omega
theorem nbs_univ {l : List P2} {a x y : Int} (h : y ∈ nbs l x) : y ∈ univ l a := by
  unfold univ
  rw [mem_nbs] at h
  simp only [List.mem_cons, List.mem_flatMap]
  right
  rcases h with h | h
  · exact ⟨_, h, by simp⟩
  · exact ⟨_, h, by simp⟩
/-- Where the search stands: what is met, what is ahead. -/
structure Dfs (w : World) (base nb mb : Nat) (L : IV) (l : List P2) (v : Value) (st ks : List Int) : Prop where
  grp : Grp w base nb L (nbs l)
  set : SetI w mb ks
  own : OwnI w base v st
  apart : ∀ x, (gv L x).ownBlock = none ∨ (gv L x).ownBlock ≠ v.ownBlock
  ne : nb ≠ mb
  lo : base ≤ mb
theorem Dfs.step {w w1 : World} {base nb mb : Nat} {L : IV} {l : List P2} {v : Value} {st ks : List Int} (h : Dfs w base nb mb L l v st ks) (hw : Below w.heap.size w w1) : Dfs w1 base nb mb L l v st ks :=
  ⟨h.grp.step hw, h.set.step hw, h.own.step hw, h.apart, h.ne, h.lo⟩
theorem Grp.wr {w w1 : World} {base nb g : Nat} {L : IV} {f : Int → List Int} (h : Grp w base nb L f) (hw : Wr g w w1) (hg : nb ≠ g) (hr : ∀ x, (gv L x).ownBlock ≠ some g) : Grp w1 base nb L f :=
  ⟨h.map.wr hw hg, fun x => (h.own x).wr (hr x) hw, h.apart, h.lo⟩
theorem Dfs.met {w w1 : World} {base nb mb : Nat} {L : IV} {l : List P2} {v : Value} {st ks ks' : List Int} (h : Dfs w base nb mb L l v st ks) (hs : SetI w1 mb ks') (hw : Wr mb w w1) : Dfs w1 base nb mb L l v st ks' :=
  ⟨h.grp.wr hw h.ne (fun x e => by
    obtain ⟨cs, hc⟩ := (h.grp.own x).cells e
    exact MapI.nocell h.set hc), hs, h.own.wr (fun e => by
    obtain ⟨cs, hc⟩ := h.own.cells e
    exact MapI.nocell h.set hc) hw, h.apart, h.ne, h.lo⟩
theorem Dfs.push {w w1 : World} {base nb mb g n c : Nat} {L : IV} {l : List P2} {v : Value} {st ks : List Int} {x : Int} (h : Dfs w base nb mb L l v st ks) (ho : OwnI w1 base (.slice (some ⟨g, 0, none⟩) n c) (st ++ [x])) (hg : w.grownBy w1 v.ownBlock) (hat : v.ownBlock = some g ∨ g = w.heap.size) : Dfs w1 base nb mb L l (.slice (some ⟨g, 0, none⟩) n c) (st ++ [x]) ks := by
  have hmap : ∀ {b : Nat} {k : IV}, MapI w b k → w1.heap[b]? = w.heap[b]? := fun {b k} hm => hg.block b hm.lt (fun e => by
    obtain ⟨cs, hc⟩ := h.own.cells e.symm
    exact hm.nocell hc)
  refine ⟨⟨h.grp.map.at (hmap h.grp.map), fun y => (h.grp.own y).kept hg (h.apart y), h.grp.apart, h.grp.lo⟩, SetI.at h.set (hmap h.set), ho, fun y => ?_, h.ne, h.lo⟩
  rcases hat with e | e
  · rcases h.apart y with e2 | e2
    · exact .inl e2
    · right; rw [e] at e2; exact e2
  · cases hv : (gv L y).ownBlock with
    | none => exact .inl rfl
    | some k =>
      right
      rintro e2
      have := (h.grp.own y).lt hv
      simp only [Value.ownBlock, Option.some.injEq] at e2
      omega
theorem own_pop {w : World} {base n g c : Nat} {st : List Int} {x : Int} (h : OwnI w base (.slice (some ⟨g, 0, none⟩) (n + 1) c) (st ++ [x])) : OwnI w base (.slice (some ⟨g, 0, none⟩) n c) st := by
  obtain ⟨hl, ⟨h0, _⟩ | ⟨g', c', cur, hv, hb, hh, hle, hm, hs, ht⟩⟩ := h
  · cases h0
  · simp only [List.length_append, List.length_cons, List.length_nil, Value.slice.injEq, Option.some.injEq, Addr.mk.injEq, and_true] at hv
    obtain ⟨rfl, hn, rfl⟩ := hv
    have hxl : st.length = n := by omega
    subst hxl
    refine ⟨by simp, .inr ⟨g, c, cur, rfl, hb, hh, by simp at hle; omega, hm, hs, ?_⟩⟩
    have e : cur.toList.take (st.length * 1) = (cur.toList.take ((st ++ [x]).length * 1)).take st.length := by rw [List.take_take]; congr 1; simp
    rw [e, ht]; simp
theorem Dfs.pop {w : World} {base nb mb g n c : Nat} {L : IV} {l : List P2} {st ks : List Int} {x : Int} (h : Dfs w base nb mb L l (.slice (some ⟨g, 0, none⟩) (n + 1) c) (st ++ [x]) ks) : Dfs w base nb mb L l (.slice (some ⟨g, 0, none⟩) n c) st ks :=
  ⟨h.grp, h.set, own_pop h.own, h.apart, h.ne, h.lo⟩
/-- What is so of what is met and what is ahead; x is gone through up to its first j. -/
structure Srch (l : List P2) (a : Int) (st ks : List Int) (x : Option Int) (j : Nat) : Prop where
  nd : ks.Nodup
  un : ∀ y ∈ ks, y ∈ univ l a
  cn : ∀ y ∈ ks, Cn l a y
  has : a ∈ ks
  sub : ∀ y ∈ st, y ∈ ks
  cur : ∀ y, x = some y → y ∈ ks ∧ ∀ z ∈ (nbs l y).take j, z ∈ ks
  done : ∀ y ∈ ks, y ∈ st ∨ x = some y ∨ ∀ z ∈ nbs l y, z ∈ ks
theorem Srch.start (l : List P2) (a : Int) : Srch l a [a] [a] none 0 :=
  ⟨by simp, fun y h => (by simp at h; subst h; simp [univ]), fun y h => (by simp at h; subst h; exact Cn.refl _ _), by simp, fun y h => h, fun y h => (by cases h), fun y h => .inl h⟩
theorem Srch.pop {l : List P2} {a x : Int} {st ks : List Int} (h : Srch l a (st ++ [x]) ks none 0) : Srch l a st ks (some x) 0 :=
  ⟨h.nd, h.un, h.cn, h.has, fun y hy => h.sub y (by simp [hy]), fun y e => by cases e; exact ⟨h.sub x (by simp), by simp⟩, fun y hy => by
    rcases h.done y hy with h1 | h1 | h1
    · rcases List.mem_append.1 h1 with h1 | h1
      · exact .inl h1
      · simp at h1; subst h1; exact .inr (.inl rfl)
    · cases h1
    · exact .inr (.inr h1)⟩
theorem take_snoc' {α : Type} {l : List α} {k : Nat} {x : α} (h : l[k]? = some x) : l.take (k + 1) = l.take k ++ [x] := take_snoc h
theorem Srch.skip {l : List P2} {a x y : Int} {st ks : List Int} {j : Nat} (h : Srch l a st ks (some x) j) (hy : (nbs l x)[j]? = some y) (hin : y ∈ ks) : Srch l a st ks (some x) (j + 1) :=
  ⟨h.nd, h.un, h.cn, h.has, h.sub, fun z e => by
    cases e
    refine ⟨(h.cur x rfl).1, fun z hz => ?_⟩
    rw [take_snoc hy] at hz
    rcases List.mem_append.1 hz with hz | hz
    · exact (h.cur x rfl).2 z hz
    · simp at hz; subst hz; exact hin, h.done⟩
theorem Srch.add {l : List P2} {a x y : Int} {st ks : List Int} {j : Nat} (h : Srch l a st ks (some x) j) (hy : (nbs l x)[j]? = some y) (hin : y ∉ ks) : Srch l a (st ++ [y]) (ks ++ [y]) (some x) (j + 1) := by
  have hym := List.mem_of_getElem? hy
  have hxk := (h.cur x rfl).1
  refine ⟨?_, fun z hz => ?_, fun z hz => ?_, by simp [h.has], fun z hz => ?_, fun z e => ?_, fun z hz => ?_⟩
  · rw [List.nodup_append]
    exact ⟨h.nd, by simp, fun p hp q hq => by simp at hq; subst hq; rintro rfl; exact hin hp⟩
  · rcases List.mem_append.1 hz with hz | hz
    · exact h.un z hz
    · simp at hz; subst hz; exact nbs_univ hym
  · rcases List.mem_append.1 hz with hz | hz
    · exact h.cn z hz
    · simp at hz; subst hz
      refine (h.cn x hxk).trans ?_
      rcases mem_nbs.1 hym with e | e
      · exact Cn.pair (p := (x, z)) e
      · exact (Cn.pair (p := (z, x)) e).symm
  · rcases List.mem_append.1 hz with hz | hz
    · exact List.mem_append_left _ (h.sub z hz)
    · exact List.mem_append_right _ hz
  · cases e
    refine ⟨List.mem_append_left _ hxk, fun z hz => ?_⟩
    rw [take_snoc hy] at hz
    rcases List.mem_append.1 hz with hz | hz
    · exact List.mem_append_left _ ((h.cur x rfl).2 z hz)
    · exact List.mem_append_right _ hz
  · rcases List.mem_append.1 hz with hz | hz
    · rcases h.done z hz with h1 | h1 | h1
      · exact .inl (List.mem_append_left _ h1)
      · exact .inr (.inl h1)
      · exact .inr (.inr fun q hq => List.mem_append_left _ (h1 q hq))
    · exact .inl (List.mem_append_right _ hz)
theorem Srch.over {l : List P2} {a x : Int} {st ks : List Int} {j : Nat} (h : Srch l a st ks (some x) j) (hj : j = (nbs l x).length) : Srch l a st ks none 0 :=
  ⟨h.nd, h.un, h.cn, h.has, h.sub, fun y e => (by cases e), fun y hy => by
    rcases h.done y hy with h1 | h1 | h1
    · exact .inl h1
    · cases h1
      refine .inr (.inr fun z hz => (h.cur x rfl).2 z ?_)
      rw [hj, List.take_length]; exact hz
    · exact .inr (.inr h1)⟩
theorem Srch.end_ {l : List P2} {a : Int} {ks : List Int} (h : Srch l a [] ks none 0) (x : Int) : x ∈ ks ↔ Cn l a x := by
  constructor
  · exact h.cn x
  · intro hc
    refine (hc (fun z => z ∈ ks) fun p hp => ?_).1 h.has
    have key : ∀ y, y ∈ ks → ∀ z ∈ nbs l y, z ∈ ks := fun y hy => by
      rcases h.done y hy with h1 | h1 | h1
      · simp at h1
      · cases h1
      · exact h1
    exact ⟨fun h1 => key _ h1 _ (mem_nbs.2 (.inl hp)), fun h1 => key _ h1 _ (mem_nbs.2 (.inr hp))⟩
theorem Srch.room {l : List P2} {a : Int} {st ks : List Int} {x : Option Int} {j : Nat} (h : Srch l a st ks x j) : ks.length ≤ 2 * l.length + 1 := by
  have := nodup_sub_len h.nd h.un
  rwa [univ_len] at this
end Go.Proofs.Ytggoajpemffbiaa
