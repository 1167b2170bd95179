/-
  Branches whose rows lie in some blocks alone; a branch's copy out of a tree: plain facts.
-/
import Derived.Test.YtcijjeflojaocaaEqual
import Derived.Test.YtcijjeflojaocaaMade
namespace Go.Proofs.Ytcijjeflojaocaa
open Go.RowKit
set_option linter.unusedVariables false
set_option linter.unusedSimpArgs false

mutual
/-- All rows of a branch lie in blocks of which P holds. -/
def Br.On (P : Nat → Prop) : Br → Prop
  | .mk h ks => (∀ a, h.nn ≠ 0 → h.np = some a → P a.block) ∧ (∀ a, h.kn ≠ 0 → h.kp = some a → P a.block) ∧ AllOn P ks
def AllOn (P : Nat → Prop) : List Br → Prop
  | [] => True
  | b :: r => b.On P ∧ AllOn P r
end
theorem allOn_iff (P : Nat → Prop) (ks : List Br) : AllOn P ks ↔ ∀ b ∈ ks, b.On P := by
  induction ks with
  | nil => simp [AllOn]
  | cons x r ih => simp [AllOn, ih]
theorem on_iff (P : Nat → Prop) (b : Br) : b.On P ↔ (∀ a, b.h.nn ≠ 0 → b.h.np = some a → P a.block) ∧ (∀ a, b.h.kn ≠ 0 → b.h.kp = some a → P a.block) ∧ ∀ x ∈ b.ks, x.On P := by
  cases b; simp only [Br.On, Br.h, Br.ks, allOn_iff]
theorem Br.On.mono {P Q : Nat → Prop} (h : ∀ k, P k → Q k) (b : Br) : b.On P → b.On Q := by
  induction b using Br.ind with
  | hP hd ks ih =>
    intro hb
    rw [on_iff] at hb ⊢
    exact ⟨fun a h1 h2 => h _ (hb.1 a h1 h2), fun a h1 h2 => h _ (hb.2.1 a h1 h2), fun x hx => ih x hx (hb.2.2 x hx)⟩
theorem in_block {w : World} {p : Option Addr} {n c : Nat} {l : List Int} (h : In mkI w p n c l) (a : Addr) (hn : n ≠ 0) (hp : p = some a) : a.block < w.heap.size := by
  obtain ⟨_, h0 | ⟨b, off, hp', _, hb, _⟩⟩ := h
  · exact absurd h0 hn
  · rw [hp'] at hp
    obtain rfl := Option.some.inj hp
    exact hb
theorem kids_block {w : World} {p : Option Addr} {n c : Nat} {l : List Br} (h : KidsIn w p n c l) (a : Addr) (hn : n ≠ 0) (hp : p = some a) : a.block < w.heap.size := by
  obtain ⟨_, h0 | ⟨b, off, hp', _, hb, _⟩⟩ := h
  · exact absurd h0 hn
  · rw [hp'] at hp
    obtain rfl := Option.some.inj hp
    exact hb
/-- What lies, lies below the heap's end. -/
theorem Br.On.low {P : Nat → Prop} {w : World} (b : Br) : b.On P → b.Lies w → b.On fun k => P k ∧ k < w.heap.size := by
  induction b using Br.ind with
  | hP hd ks ih =>
    intro hb hl
    rw [on_iff] at hb ⊢
    rw [lies_iff] at hl
    exact ⟨fun a h1 h2 => ⟨hb.1 a h1 h2, in_block hl.1 a h1 h2⟩, fun a h1 h2 => ⟨hb.2.1 a h1 h2, kids_block hl.2.1 a h1 h2⟩, fun x hx => ih x hx (hb.2.2 x hx) (hl.2.2 x hx)⟩
theorem kids_kept {w w1 : World} {p : Option Addr} {n c : Nat} {l : List Br} (h : KidsIn w p n c l) (hs : w.heap.size ≤ w1.heap.size) (hk : ∀ a, n ≠ 0 → p = some a → w1.heap[a.block]? = w.heap[a.block]?) : KidsIn w1 p n c l := by
  obtain ⟨hn, h0 | ⟨b, off, rfl, hc, hb, hat⟩⟩ := h
  · exact ⟨hn, .inl h0⟩
  · by_cases hn0 : n = 0
    · exact ⟨hn, .inl hn0⟩
    · have e := hk _ hn0 rfl
      have ec : ∀ o, w1.cell? ⟨b, o, none⟩ = w.cell? ⟨b, o, none⟩ := fun o => World.cell?_of_block e
      refine ⟨hn, .inr ⟨b, off, rfl, hc, by omega, fun i hi => ?_⟩⟩
      have := hat i hi
      simp only [BrAt, ec] at this ⊢
      exact this
theorem Br.Lies.kept {P : Nat → Prop} {w w1 : World} (b : Br) (hs : w.heap.size ≤ w1.heap.size) (hk : ∀ k, P k → k < w.heap.size → w1.heap[k]? = w.heap[k]?) : b.On P → b.Lies w → b.Lies w1 := by
  induction b using Br.ind with
  | hP hd ks ih =>
    intro hb hl
    rw [on_iff] at hb
    rw [lies_iff] at hl ⊢
    refine ⟨in_kept hl.1 hs fun a h1 h2 => hk _ (hb.1 a h1 h2) (in_block hl.1 a h1 h2), kids_kept hl.2.1 hs fun a h1 h2 => hk _ (hb.2.1 a h1 h2) (kids_block hl.2.1 a h1 h2), fun x hx => ih x hx (hb.2.2 x hx) (hl.2.2 x hx)⟩

/-- A branch's six cells, and those of branches one behind the other. -/
def hcells (h : Hd) : List Value := [.int .i64 h.k, .int .i64 h.m, .int .i64 h.f, .int .i64 h.t, .slice h.np h.nn h.nc, .slice h.kp h.kn h.kc]
def cellsK : List Br → List Value
  | [] => []
  | b :: r => hcells b.h ++ cellsK r
theorem cellsK_append (a b : List Br) : cellsK (a ++ b) = cellsK a ++ cellsK b := by
  induction a with
  | nil => rfl
  | cons x r ih => simp [cellsK, ih]
theorem cellsK_length (l : List Br) : (cellsK l).length = l.length * 6 := by
  induction l with
  | nil => rfl
  | cons x r ih => simp [cellsK, hcells, ih]; omega
theorem cellsK_at (l : List Br) (i j : Nat) (h : i < l.length) (hj : j < 6) : (cellsK l)[i * 6 + j]? = (hcells l[i].h)[j]? := by
  induction l generalizing i with
  | nil => simp at h
  | cons x r ih =>
    have hx : (hcells x.h).length = 6 := rfl
    cases i with
    | zero =>
      simp only [cellsK, Nat.zero_mul, Nat.zero_add, List.getElem_cons_zero]
      rw [List.getElem?_append_left (by omega)]
    | succ i =>
      simp only [cellsK, List.getElem_cons_succ]
      rw [List.getElem?_append_right (by omega), hx, show (i + 1) * 6 + j - 6 = i * 6 + j by omega]
      exact ih i (by simpa using h)
theorem kids_of_own {w : World} {base n : Nat} {v : Value} {l : List Br} (h : w.ownsRow base 25 6 v n (cellsK l)) (hn : n = l.length) : ∃ p c, v = .slice p n c ∧ KidsIn w p n c l := by
  subst hn
  rcases Nat.eq_zero_or_pos l.length with h0 | h0
  · obtain ⟨p, c, rfl⟩ := own_form h
    exact ⟨p, c, rfl, rfl, .inl h0⟩
  · obtain ⟨g, c, rfl, _, hg, hc, _⟩ := own_pos h h0
    refine ⟨_, c, rfl, rfl, .inr ⟨g, 0, rfl, hc, hg, fun i hi => ?_⟩⟩
    have hc := fun j (hj : j < 6) u (hu : (hcells l[i].h)[j]? = some u) => own_cell h (i * 6 + j) u (by rw [cellsK_at l i j hi hj, hu])
    simp only [BrAt, Nat.zero_add]
    exact ⟨hc 0 (by omega) _ rfl, hc 1 (by omega) _ rfl, hc 2 (by omega) _ rfl, hc 3 (by omega) _ rfl, hc 4 (by omega) _ rfl, hc 5 (by omega) _ rfl⟩
/-- Kids' numbers lead to their entries. -/
theorem kidB_at {l : List Ent} (ks : List Br) (up : Nat) (deep : Int) (stop m : Nat) (h : Sits l m (flats up deep stop m ks)) (j : Nat) (hj : j < ks.length) (o : Nat) (ho : (offs m ks)[j]? = some o) : ∃ e, l[o]? = some e ∧ e.b = ks[j] := by
  induction ks generalizing m j with
  | nil => simp at hj
  | cons x r ih =>
    simp only [flats] at h
    cases j with
    | zero =>
      simp only [offs, List.getElem?_cons_zero, Option.some.injEq] at ho
      subst ho
      have h1 := h.left
      rw [flat_eq] at h1
      exact ⟨_, h1.head, rfl⟩
    | succ j =>
      have h2 := h.right
      rw [flat_length] at h2
      simp only [offs, List.getElem?_cons_succ] at ho
      exact ih _ h2 j (by simpa using hj) ho
theorem kidB_of {b : Br} {i : Nat} {e : Ent} (h : b.all[i]? = some e) (j : Nat) (hj : j < e.b.ks.length) (o : Nat) (ho : (offs (i + 1) e.b.ks)[j]? = some o) : ∃ e', b.all[o]? = some e' ∧ e'.b = e.b.ks[j] := by
  have h1 := here_at h
  unfold Ent.Here at h1
  rw [flat_eq, pos_of_all h] at h1
  exact kidB_at _ _ _ _ _ h1.tail j hj o ho
theorem sames_append (a b c d : List Br) (h : a.length = c.length) : sames (a ++ b) (c ++ d) = (sames a c && sames b d) := by
  induction a generalizing c with
  | nil =>
    cases c with
    | nil => simp [sames]
    | cons y s => simp at h
  | cons x r ih =>
    cases c with
    | nil => simp at h
    | cons y s =>
      simp only [List.cons_append, sames]
      rw [ih s (by simpa using h), Bool.and_assoc]
/-- A branch that is the same is of the same size, and fits as well. -/
theorem sames_size_of {ks : List Br} (ih : ∀ x ∈ ks, ∀ y, x.same y = true → x.size = y.size) : ∀ l, ks.length = l.length → sames ks l = true → sizes ks = sizes l := by
  induction ks with
  | nil => intro l h _; cases l with | nil => rfl | cons y s => simp at h
  | cons x r ih' =>
    intro l h hs
    cases l with
    | nil => simp at h
    | cons y s =>
      simp only [sames, Bool.and_eq_true] at hs
      simp only [sizes]
      rw [ih x (by simp) y hs.1, ih' (fun z hz => ih z (by simp [hz])) s (by simpa using h) hs.2]
theorem same_size (a : Br) : ∀ b, a.same b = true → a.size = b.size := by
  induction a using Br.ind with
  | hP h ks ih =>
    intro b hs
    rw [same_eq] at hs
    simp only [Bool.and_eq_true] at hs
    rw [Br.size_eq, Br.size_eq b]
    have h1 : ks.length = b.ks.length := of_decide_eq_true hs.2.2.2.2.2.1
    have h2 := sames_size_of ih b.ks h1 hs.2.2.2.2.2.2
    show sizes ks + 1 = _
    rw [h2]
end Go.Proofs.Ytcijjeflojaocaa
