/-
  Branches as they lie in memory at this seat.
-/
import Derived.Test.YtkjgkchdkeggoaaGreatDoorTPath
namespace Go.Proofs.YtkjgkchdkeggoaaGreatDoor
open Go.RowKit
set_option maxRecDepth 20000
set_option linter.unusedVariables false
set_option linter.unusedSimpArgs false

/-- A branch's own numbers, and where its names and its kids lie. -/
structure Hd where
  k : Int
  m : Int
  f : Int
  t : Int
  np : Option Addr
  nn : Nat
  nc : Nat
  ns : List Int
  kp : Option Addr
  kn : Nat
  kc : Nat
/-- A branch. -/
inductive Br where
  | mk (h : Hd) (ks : List Br)
def Br.h : Br → Hd | .mk h _ => h
def Br.ks : Br → List Br | .mk _ ks => ks
theorem Br.eta : (b : Br) → Br.mk b.h b.ks = b | .mk _ _ => rfl

theorem Br.ind {P : Br → Prop} (hP : ∀ h ks, (∀ b ∈ ks, P b) → P (.mk h ks)) : ∀ b, P b := fun b =>
  Br.rec (motive_1 := P) (motive_2 := fun ks => ∀ b ∈ ks, P b) (fun h ks ih => hP h ks ih) (fun b hb => by cases hb)
    (fun x r hx hr b hb => by
      rcases List.mem_cons.1 hb with rfl | hb
      · exact hx
      · exact hr b hb) b

/-- A row of one-cell values from a place on. -/
def AtV {α : Type} (mk : α → Value) (w : World) (b off : Nat) (l : List α) : Prop :=
  ∀ i, (h : i < l.length) → w.cell? ⟨b, off + i, none⟩ = some (mk l[i])
/-- A slice value reads as this list. -/
def InV {α : Type} (mk : α → Value) (w : World) (p : Option Addr) (n cap : Nat) (l : List α) : Prop :=
  n = l.length ∧ (n = 0 ∨ ∃ b off, p = some ⟨b, off, none⟩ ∧ n ≤ cap ∧ b < w.heap.size ∧ AtV mk w b off l)
abbrev mkI : Int → Value := fun x => .int .i64 x
theorem AtV.step {α : Type} {mk : α → Value} {w w1 : World} {b off : Nat} {l : List α} (h : AtV mk w b off l) (hb : b < w.heap.size) (hw : Below w.heap.size w w1) : AtV mk w1 b off l :=
  fun i hi => (hw.cell (p := ⟨b, _, none⟩) hb).trans (h i hi)
theorem InV.step {α : Type} {mk : α → Value} {w w1 : World} {p : Option Addr} {n cap : Nat} {l : List α} (h : InV mk w p n cap l) (hw : Below w.heap.size w w1) : InV mk w1 p n cap l := by
  obtain ⟨hn, h0 | ⟨b, off, hp, hc, hb, hat⟩⟩ := h
  · exact ⟨hn, .inl h0⟩
  · exact ⟨hn, .inr ⟨b, off, hp, hc, Nat.lt_of_lt_of_le hb hw.size, hat.step hb hw⟩⟩
/-- What a row of the call's own reads as. -/
theorem in_of_row {α : Type} {mk : α → Value} {w : World} {base E n : Nat} {v : Value} {l : List α} (h : w.ownsRow base E 1 v n (l.map mk)) (hn : n = l.length) :
    ∃ p c, v = .slice p n c ∧ InV mk w p n c l := by
  subst hn
  rcases h.2 with ⟨rfl, h1⟩ | ⟨g, c, cur, rfl, hg, hh, hle, hm, hsz, ht⟩
  · exact ⟨none, 0, by rw [h1], rfl, .inl h1⟩
  · refine ⟨_, c, rfl, rfl, .inr ⟨g, 0, rfl, hle, (Array.getElem?_eq_some_iff.1 hh).1, fun i hi => ?_⟩⟩
    have := World.ownsRow.cells h (g := g) rfl i (mk l[i]) (by simp [hi])
    have ha : ((⟨g, 0, none⟩ : Addr).add i) = ⟨g, 0 + i, none⟩ := by unfold Addr.add; split <;> simp_all
    rw [ha] at this
    exact this
/-- The six cells of a branch at a place. -/
def BrAt (w : World) (b o : Nat) (h : Hd) : Prop :=
  w.cell? ⟨b, o, none⟩ = some (.int .i64 h.k) ∧ w.cell? ⟨b, o + 1, none⟩ = some (.int .i64 h.m) ∧ w.cell? ⟨b, o + 2, none⟩ = some (.int .i64 h.f) ∧
  w.cell? ⟨b, o + 3, none⟩ = some (.int .i64 h.t) ∧ w.cell? ⟨b, o + 4, none⟩ = some (.slice h.np h.nn h.nc) ∧ w.cell? ⟨b, o + 5, none⟩ = some (.slice h.kp h.kn h.kc)
/-- A branch as a value. -/
abbrev Hd.val (h : Hd) : Value := .agg #[.int .i64 h.k, .int .i64 h.m, .int .i64 h.f, .int .i64 h.t, .slice h.np h.nn h.nc, .slice h.kp h.kn h.kc]
/-- Branches that lie one behind the other. -/
def KidsAt (w : World) (b off : Nat) (ks : List Br) : Prop := ∀ i, (h : i < ks.length) → BrAt w b (off + i * 6) ks[i].h
/-- A slice of branches reads as these. -/
def KidsIn (w : World) (p : Option Addr) (n cap : Nat) (ks : List Br) : Prop :=
  n = ks.length ∧ (n = 0 ∨ ∃ b off, p = some ⟨b, off, none⟩ ∧ n ≤ cap ∧ b < w.heap.size ∧ KidsAt w b off ks)
mutual
/-- What a branch holds lies as it says. -/
def Br.Lies (w : World) : Br → Prop
  | .mk h ks => InV mkI w h.np h.nn h.nc h.ns ∧ KidsIn w h.kp h.kn h.kc ks ∧ AllLie w ks
def AllLie (w : World) : List Br → Prop
  | [] => True
  | b :: r => b.Lies w ∧ AllLie w r
end
theorem allLie_iff (w : World) (ks : List Br) : AllLie w ks ↔ ∀ b ∈ ks, b.Lies w := by
  induction ks with
  | nil => simp [AllLie]
  | cons x r ih => simp [AllLie, ih]
theorem lies_iff (w : World) (b : Br) : b.Lies w ↔ InV mkI w b.h.np b.h.nn b.h.nc b.h.ns ∧ KidsIn w b.h.kp b.h.kn b.h.kc b.ks ∧ ∀ x ∈ b.ks, x.Lies w := by
  cases b; simp only [Br.Lies, Br.h, Br.ks, allLie_iff]
theorem BrAt.step {w w1 : World} {b o : Nat} {h : Hd} (hat : BrAt w b o h) (hb : b < w.heap.size) (hw : Below w.heap.size w w1) : BrAt w1 b o h := by
  obtain ⟨h0, h1, h2, h3, h4, h5⟩ := hat
  exact ⟨(hw.cell (p := ⟨b, _, none⟩) hb).trans h0, (hw.cell (p := ⟨b, _, none⟩) hb).trans h1, (hw.cell (p := ⟨b, _, none⟩) hb).trans h2, (hw.cell (p := ⟨b, _, none⟩) hb).trans h3, (hw.cell (p := ⟨b, _, none⟩) hb).trans h4, (hw.cell (p := ⟨b, _, none⟩) hb).trans h5⟩
theorem KidsIn.step {w w1 : World} {p : Option Addr} {n cap : Nat} {ks : List Br} (h : KidsIn w p n cap ks) (hw : Below w.heap.size w w1) : KidsIn w1 p n cap ks := by
  obtain ⟨hn, h0 | ⟨b, off, hp, hc, hb, hat⟩⟩ := h
  · exact ⟨hn, .inl h0⟩
  · exact ⟨hn, .inr ⟨b, off, hp, hc, Nat.lt_of_lt_of_le hb hw.size, fun i hi => (hat i hi).step hb hw⟩⟩
theorem Br.Lies.step {w w1 : World} (b : Br) (hl : b.Lies w) (hw : Below w.heap.size w w1) : b.Lies w1 := by
  induction b using Br.ind with
  | hP h ks ih =>
    rw [lies_iff] at hl ⊢
    exact ⟨hl.1.step hw, hl.2.1.step hw, fun x hx => ih x hx (hl.2.2 x hx)⟩
theorem own_form {w : World} {base E size n : Nat} {v : Value} {xs : List Value} (h : w.ownsRow base E size v n xs) : ∃ p c, v = .slice p n c := by
  rcases h.2 with ⟨rfl, h0⟩ | ⟨g, c, cur, rfl, _⟩
  · exact ⟨none, 0, by rw [h0]⟩
  · exact ⟨_, c, rfl⟩
theorem own_pos {w : World} {base E size n : Nat} {v : Value} {xs : List Value} (h : w.ownsRow base E size v n xs) (hn : 0 < n) : ∃ g c, v = .slice (some ⟨g, 0, none⟩) n c ∧ base ≤ g ∧ g < w.heap.size ∧ n ≤ c ∧ c ≤ maxLen := by
  rcases h.2 with ⟨_, h0⟩ | ⟨g, c, cur, rfl, hg, hh, hle, hm, _⟩
  · omega
  · exact ⟨g, c, rfl, hg, (Array.getElem?_eq_some_iff.1 hh).1, hle, hm⟩
theorem own_news {w : World} {base E size n c g : Nat} {xs : List Value} (h : w.ownsRow base E size (.slice (some ⟨g, 0, none⟩) n c) n xs) : ∀ j u, xs[j]? = some u → w.cell? ((⟨g, 0, none⟩ : Addr).add j) = some u := fun j u hj => World.ownsRow.cells h (g := g) rfl j u hj

theorem own_cell {w : World} {base E size n g c : Nat} {xs : List Value} (h : w.ownsRow base E size (.slice (some ⟨g, 0, none⟩) n c) n xs) (j : Nat) (u : Value) (hj : xs[j]? = some u) : w.cell? ⟨g, j, none⟩ = some u := by
  have := own_news h j u hj
  have ha : ((⟨g, 0, none⟩ : Addr).add j) = ⟨g, j, none⟩ := by unfold Addr.add; split <;> simp_all
  rwa [ha] at this
theorem own_frozen {w : World} {base E size n g c : Nat} {xs : List Value} (h : w.ownsRow base E size (.slice (some ⟨g, 0, none⟩) n c) n xs) (j : Nat) : w.frozen? ⟨g, j, none⟩ = false := by
  obtain ⟨hl, ⟨h0, _⟩ | ⟨g', c', cur, hv, hb, hh, hle, hm, hs, ht⟩⟩ := h
  · cases h0
  · simp only [Value.slice.injEq, Option.some.injEq, Addr.mk.injEq, and_true, true_and] at hv
    obtain ⟨rfl, rfl⟩ := hv
    simp [World.frozen?, hh]

theorem in_kept {w w1 : World} {p : Option Addr} {n c : Nat} {l : List Int} (h : InV mkI w p n c l) (hs : w.heap.size ≤ w1.heap.size) (hk : ∀ a, n ≠ 0 → p = some a → w1.heap[a.block]? = w.heap[a.block]?) : InV mkI w1 p n c l := by
  obtain ⟨hn, h0 | ⟨b, off, rfl, hc, hb, hat⟩⟩ := h
  · exact ⟨hn, .inl h0⟩
  · by_cases hn0 : n = 0
    · exact ⟨hn, .inl hn0⟩
    · refine ⟨hn, .inr ⟨b, off, rfl, hc, by omega, fun i hi => ?_⟩⟩
      have := hat i hi
      have e := hk _ hn0 rfl
      rw [← this]
      simp only [World.cell?] at e ⊢
      rw [e]

mutual
/-- All rows of a branch lie in blocks of which P holds. -/
def Br.On (P : Nat → Prop) : Br → Prop
  | .mk h ks => (∀ a, h.nn ≠ 0 → h.np = some a → P a.block) ∧ (∀ a, h.kn ≠ 0 → h.kp = some a → P a.block) ∧ AllOn P ks
def AllOn (P : Nat → Prop) : List Br → Prop
  | [] => True
  | b :: r => b.On P ∧ AllOn P r
end
theorem allOn_iff (P : Nat → Prop) (ks : List Br) : AllOn P ks ↔ ∀ b ∈ ks, b.On P := by
  induction ks with
  | nil => simp [AllOn]
  | cons x r ih => simp [AllOn, ih]
theorem on_iff (P : Nat → Prop) (b : Br) : b.On P ↔ (∀ a, b.h.nn ≠ 0 → b.h.np = some a → P a.block) ∧ (∀ a, b.h.kn ≠ 0 → b.h.kp = some a → P a.block) ∧ ∀ x ∈ b.ks, x.On P := by
  cases b; simp only [Br.On, Br.h, Br.ks, allOn_iff]
theorem Br.On.mono {P Q : Nat → Prop} (h : ∀ k, P k → Q k) (b : Br) : b.On P → b.On Q := by
  induction b using Br.ind with
  | hP hd ks ih =>
    intro hb
    rw [on_iff] at hb ⊢
    exact ⟨fun a h1 h2 => h _ (hb.1 a h1 h2), fun a h1 h2 => h _ (hb.2.1 a h1 h2), fun x hx => ih x hx (hb.2.2 x hx)⟩
theorem in_block {w : World} {p : Option Addr} {n c : Nat} {l : List Int} (h : InV mkI w p n c l) (a : Addr) (hn : n ≠ 0) (hp : p = some a) : a.block < w.heap.size := by
  obtain ⟨_, h0 | ⟨b, off, hp', _, hb, _⟩⟩ := h
  · exact absurd h0 hn
  · rw [hp'] at hp
    obtain rfl := Option.some.inj hp
    exact hb
theorem kids_block {w : World} {p : Option Addr} {n c : Nat} {l : List Br} (h : KidsIn w p n c l) (a : Addr) (hn : n ≠ 0) (hp : p = some a) : a.block < w.heap.size := by
  obtain ⟨_, h0 | ⟨b, off, hp', _, hb, _⟩⟩ := h
  · exact absurd h0 hn
  · rw [hp'] at hp
    obtain rfl := Option.some.inj hp
    exact hb
/-- What lies, lies below the heap's end. -/
theorem Br.On.low {P : Nat → Prop} {w : World} (b : Br) : b.On P → b.Lies w → b.On fun k => P k ∧ k < w.heap.size := by
  induction b using Br.ind with
  | hP hd ks ih =>
    intro hb hl
    rw [on_iff] at hb ⊢
    rw [lies_iff] at hl
    exact ⟨fun a h1 h2 => ⟨hb.1 a h1 h2, in_block hl.1 a h1 h2⟩, fun a h1 h2 => ⟨hb.2.1 a h1 h2, kids_block hl.2.1 a h1 h2⟩, fun x hx => ih x hx (hb.2.2 x hx) (hl.2.2 x hx)⟩
theorem kids_kept {w w1 : World} {p : Option Addr} {n c : Nat} {l : List Br} (h : KidsIn w p n c l) (hs : w.heap.size ≤ w1.heap.size) (hk : ∀ a, n ≠ 0 → p = some a → w1.heap[a.block]? = w.heap[a.block]?) : KidsIn w1 p n c l := by
  obtain ⟨hn, h0 | ⟨b, off, rfl, hc, hb, hat⟩⟩ := h
  · exact ⟨hn, .inl h0⟩
  · by_cases hn0 : n = 0
    · exact ⟨hn, .inl hn0⟩
    · have e := hk _ hn0 rfl
      have ec : ∀ o, w1.cell? ⟨b, o, none⟩ = w.cell? ⟨b, o, none⟩ := fun o => World.cell?_of_block e
      refine ⟨hn, .inr ⟨b, off, rfl, hc, by omega, fun i hi => ?_⟩⟩
      have := hat i hi
      simp only [BrAt, ec] at this ⊢
      exact this
theorem Br.Lies.kept {P : Nat → Prop} {w w1 : World} (b : Br) (hs : w.heap.size ≤ w1.heap.size) (hk : ∀ k, P k → k < w.heap.size → w1.heap[k]? = w.heap[k]?) : b.On P → b.Lies w → b.Lies w1 := by
  induction b using Br.ind with
  | hP hd ks ih =>
    intro hb hl
    rw [on_iff] at hb
    rw [lies_iff] at hl ⊢
    refine ⟨in_kept hl.1 hs fun a h1 h2 => hk _ (hb.1 a h1 h2) (in_block hl.1 a h1 h2), kids_kept hl.2.1 hs fun a h1 h2 => hk _ (hb.2.1 a h1 h2) (kids_block hl.2.1 a h1 h2), fun x hx => ih x hx (hb.2.2 x hx) (hl.2.2 x hx)⟩

/-- A branch's six cells, and those of branches one behind the other. -/
def hcells (h : Hd) : List Value := [.int .i64 h.k, .int .i64 h.m, .int .i64 h.f, .int .i64 h.t, .slice h.np h.nn h.nc, .slice h.kp h.kn h.kc]
def cellsK : List Br → List Value
  | [] => []
  | b :: r => hcells b.h ++ cellsK r
theorem cellsK_append (a b : List Br) : cellsK (a ++ b) = cellsK a ++ cellsK b := by
  induction a with
  | nil => rfl
  | cons x r ih => simp [cellsK, ih]
theorem cellsK_length (l : List Br) : (cellsK l).length = l.length * 6 := by
  induction l with
  | nil => rfl
  | cons x r ih => simp [cellsK, hcells, ih]; omega
theorem cellsK_at (l : List Br) (i j : Nat) (h : i < l.length) (hj : j < 6) : (cellsK l)[i * 6 + j]? = (hcells l[i].h)[j]? := by
  induction l generalizing i with
  | nil => simp at h
  | cons x r ih =>
    have hx : (hcells x.h).length = 6 := rfl
    cases i with
    | zero =>
      simp only [cellsK, Nat.zero_mul, Nat.zero_add, List.getElem_cons_zero]
      rw [List.getElem?_append_left (by omega)]
    | succ i =>
      simp only [cellsK, List.getElem_cons_succ]
      rw [List.getElem?_append_right (by omega), hx, show (i + 1) * 6 + j - 6 = i * 6 + j by omega]
      exact ih i (by simpa using h)
theorem kids_of_own {w : World} {base n : Nat} {v : Value} {l : List Br} (h : w.ownsRow base 26 6 v n (cellsK l)) (hn : n = l.length) : ∃ p c, v = .slice p n c ∧ KidsIn w p n c l := by
  subst hn
  rcases Nat.eq_zero_or_pos l.length with h0 | h0
  · obtain ⟨p, c, rfl⟩ := own_form h
    exact ⟨p, c, rfl, rfl, .inl h0⟩
  · obtain ⟨g, c, rfl, _, hg, hc, _⟩ := own_pos h h0
    refine ⟨_, c, rfl, rfl, .inr ⟨g, 0, rfl, hc, hg, fun i hi => ?_⟩⟩
    have hc := fun j (hj : j < 6) u (hu : (hcells l[i].h)[j]? = some u) => own_cell h (i * 6 + j) u (by rw [cellsK_at l i j hi hj, hu])
    simp only [BrAt, Nat.zero_add]
    exact ⟨hc 0 (by omega) _ rfl, hc 1 (by omega) _ rfl, hc 2 (by omega) _ rfl, hc 3 (by omega) _ rfl, hc 4 (by omega) _ rfl, hc 5 (by omega) _ rfl⟩
theorem hcells_one (h : Hd) : ∀ u ∈ hcells h, u.oneCell' = true := by
  intro u hu
  simp only [hcells, List.mem_cons, List.not_mem_nil, or_false] at hu
  rcases hu with rfl | rfl | rfl | rfl | rfl | rfl <;> rfl


mutual
/-- A branch as such, of one that lies in memory. -/
def Br.pb : Br → Pb
  | .mk h ks => .mk h.k h.m h.f h.t h.ns (pbs ks)
def pbs : List Br → List Pb
  | [] => []
  | b :: r => b.pb :: pbs r
end
theorem pbs_map (ks : List Br) : pbs ks = ks.map Br.pb := by
  induction ks with
  | nil => rfl
  | cons x r ih => simp only [pbs, List.map_cons, ih]
/-- A branch is handed back, all of whose rows are new. -/
def RB (w0 : World) : Pb → Value → World → Prop := fun b v w' => ∃ y : Br, v = y.h.val ∧ y.Lies w' ∧ (y.On fun q => w0.heap.size ≤ q) ∧ y.pb = b
theorem RB.step {w0 w w' : World} {b : Pb} {v : Value} (h : RB w0 b v w) (hb : Below w.heap.size w w') : RB w0 b v w' := by
  obtain ⟨y, h1, h2, h3, h4⟩ := h
  exact ⟨y, h1, h2.step _ hb, h3, h4⟩
theorem RB.grow {w0 w w' : World} {b : Pb} {v : Value} {r : Option Nat} (h : RB w0 b v w) (hg : w.grownBy w' r) (hr : ∀ q, r = some q → q < w0.heap.size) : RB w0 b v w' := by
  obtain ⟨y, h1, h2, h3, h4⟩ := h
  exact ⟨y, h1, Br.Lies.kept (P := fun q => w0.heap.size ≤ q) y hg.size (fun q hq hlt => hg.block q hlt (fun e => by have := hr q e.symm; omega)) h3 h2, h3, h4⟩
theorem RB.base {w0 w1 w : World} {b : Pb} {v : Value} (h : RB w1 b v w) (hs : w0.heap.size ≤ w1.heap.size) : RB w0 b v w := by
  obtain ⟨y, h1, h2, h3, h4⟩ := h
  exact ⟨y, h1, h2, h3.mono (fun q hq => by omega) _, h4⟩

set_option maxHeartbeats 400000 in
theorem rbranch_any (S : Src) (n d : Nat) (k f : Int) (np : Option Addr) (nn nc : Nat) (kp : Option Addr) (kn kc : Nat) (w : World) (h : Rd w S n d) :
    Calls Tryz.prog 38 #[.pointer (some ⟨S.g, 0, none⟩), .int .i64 k, .int .i64 f, .slice np nn nc, .slice kp kn kc] w fun e w' => e = .returned (.agg #[.int .i64 k, .int .i64 0, .int .i64 f, .int .i64 (n : Int), .slice np nn nc, .slice kp kn kc]) ∧ Below w.heap.size w w' := by
  have h1 := h.step ((Below.refl w.heap.size w).alloc (Nat.le_refl _) (.cells #[.int .i64 0, .int .i64 0, .int .i64 0, .int .i64 0, .slice none 0 0, .slice none 0 0] 26))
  have c2 := h1.c2
  clear h h1
  go_enter Tryz.func38, Tryz.ntmps38
  go_wp2_with fail
  go_returns
  exact ⟨rfl, by go_grown⟩
theorem rmarked_any (m k m0 f t : Int) (np : Option Addr) (nn nc : Nat) (kp : Option Addr) (kn kc : Nat) (w : World) :
    Calls Tryz.prog 112 #[.int .i64 m, .agg #[.int .i64 k, .int .i64 m0, .int .i64 f, .int .i64 t, .slice np nn nc, .slice kp kn kc]] w fun e w' => e = .returned (.agg #[.int .i64 k, .int .i64 m, .int .i64 f, .int .i64 t, .slice np nn nc, .slice kp kn kc]) ∧ Below w.heap.size w w' := by
  go_enter Tryz.func112, Tryz.ntmps112
  go_wp2_with fail
  go_returns
  exact ⟨rfl, by go_grown⟩
end Go.Proofs.YtkjgkchdkeggoaaGreatDoor
