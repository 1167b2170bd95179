/-
  What all walks of this seat share: rows as they lie in memory, branches as they lie, and what is kept from a base world on.
-/
import Derived.Test.YtcijjeflojaocaaPlain
import Derived.WalkKit
import Derived.WalkLawsBesides
import Derived.Below
import Derived.Deep.Draws
import Derived.Lib.Hide
import Derived.Handy
import Derived.RegionTactic
import Derived.ChangeAlike
import Derived.Deep.QuietTactic
import Derived.BigQuiet
import Derived.Deep.RegionHeld3
import Derived.Lib.QuietBelow
import Derived.Laws.AppendOwn
import Derived.Laws.OwnMore
import Derived.IntWalk
namespace Go.Proofs.Ytcijjeflojaocaa
open Go.RowKit
set_option linter.unusedVariables false
set_option linter.unusedSimpArgs false

theorem ret_bool {a b : Bool} (h : a = b) : Ending.returned (.bool a) = .returned (.bool b) := by rw [h]
theorem ret_int {k : IntKind} {a b : Int} (h : a = b) : Ending.returned (.int k a) = .returned (.int k b) := by rw [h]

theorem below_drewN {N : Nat} {w w1 : World} (h : Below N w w1) (n : Nat) : Below N w (w1.drewN n) := ⟨h.os, h.tape, h.output, h.size, h.block⟩

/-- A row of one-cell values from a place on. -/
def At {α : Type} (mk : α → Value) (w : World) (b off : Nat) (l : List α) : Prop :=
  ∀ i, (h : i < l.length) → w.cell? ⟨b, off + i, none⟩ = some (mk l[i])
/-- A slice value reads as this list. -/
def In {α : Type} (mk : α → Value) (w : World) (p : Option Addr) (n cap : Nat) (l : List α) : Prop :=
  n = l.length ∧ (n = 0 ∨ ∃ b off, p = some ⟨b, off, none⟩ ∧ n ≤ cap ∧ b < w.heap.size ∧ At mk w b off l)
/-- An int, a byte, a word. -/
abbrev mkI : Int → Value := fun x => .int .i64 x
abbrev mkB : UInt8 → Value := fun x => .int .u8 (x.toNat : Int)
abbrev mkW : Nat → Value := fun x => .int .u64 (x : Int)

theorem At.step {α : Type} {mk : α → Value} {w w1 : World} {b off : Nat} {l : List α} (h : At mk w b off l) (hb : b < w.heap.size) (hw : Below w.heap.size w w1) : At mk w1 b off l :=
  fun i hi => (hw.cell (p := ⟨b, _, none⟩) hb).trans (h i hi)
theorem In.step {α : Type} {mk : α → Value} {w w1 : World} {p : Option Addr} {n cap : Nat} {l : List α} (h : In mk w p n cap l) (hw : Below w.heap.size w w1) : In mk w1 p n cap l := by
  obtain ⟨hn, h0 | ⟨b, off, hp, hc, hb, hat⟩⟩ := h
  · exact ⟨hn, .inl h0⟩
  · exact ⟨hn, .inr ⟨b, off, hp, hc, Nat.lt_of_lt_of_le hb hw.size, hat.step hb hw⟩⟩
theorem In.nil {α : Type} (mk : α → Value) (w : World) (p : Option Addr) (cap : Nat) : In mk w p 0 cap [] := ⟨rfl, .inl rfl⟩
theorem In.zero {α : Type} {mk : α → Value} {w : World} {p : Option Addr} {cap : Nat} {l : List α} (h : In mk w p 0 cap l) : l = [] := List.length_eq_zero_iff.1 h.1.symm
theorem In.drop {α : Type} {mk : α → Value} {w : World} {b off n cap : Nat} {l : List α} (hn : n = l.length) (hc : n ≤ cap) (hb : b < w.heap.size) (hat : At mk w b off l) (k : Nat) (hk : k ≤ n) : In mk w (some ⟨b, off + k, none⟩) (n - k) (cap - k) (l.drop k) := by
  refine ⟨by simp [hn], .inr ⟨b, off + k, rfl, by omega, hb, fun i hi => ?_⟩⟩
  have := hat (k + i) (by simp at hi; omega)
  rw [List.getElem_drop, Nat.add_assoc]
  exact this

/-- What a row of the call's own reads as. -/
theorem in_of_row {α : Type} {mk : α → Value} {w : World} {base E n : Nat} {v : Value} {l : List α} (h : w.ownsRow base E 1 v n (l.map mk)) (hn : n = l.length) :
    ∃ p c, v = .slice p n c ∧ In mk w p n c l := by
  subst hn
  rcases h.2 with ⟨rfl, h1⟩ | ⟨g, c, cur, rfl, hg, hh, hle, hm, hsz, ht⟩
  · exact ⟨none, 0, by rw [h1], rfl, .inl h1⟩
  · refine ⟨_, c, rfl, rfl, .inr ⟨g, 0, rfl, hle, (Array.getElem?_eq_some_iff.1 hh).1, fun i hi => ?_⟩⟩
    have := World.ownsRow.cells h (g := g) rfl i (mk l[i]) (by simp [hi])
    have ha : ((⟨g, 0, none⟩ : Addr).add i) = ⟨g, 0 + i, none⟩ := by unfold Addr.add; split <;> simp_all
    rw [ha] at this
    exact this
theorem row_step {w w1 : World} {base E size n : Nat} {v : Value} {xs : List Value} (h : w.ownsRow base E size v n xs) (hb : Below w.heap.size w w1) : w1.ownsRow base E size v n xs := by
  refine h.kept (row := none) ⟨hb.os, hb.tape, hb.output, hb.size, fun k hk _ => hb.block k hk⟩ ?_
  cases v.ownBlock with
  | none => exact .inl rfl
  | some k => exact .inr (by simp)
theorem grown_below {w w1 : World} (h : Below w.heap.size w w1) (r : Option Nat) : w.grownBy w1 r := ⟨h.os, h.tape, h.output, h.size, fun j hj _ => h.block j hj⟩
theorem grown_trans {w w1 w2 : World} {r : Option Nat} (h : w.grownBy w1 r) (k : w1.grownBy w2 r) : w.grownBy w2 r :=
  ⟨k.os.trans h.os, k.tape.trans h.tape, k.output.trans h.output, Nat.le_trans h.size k.size, fun j hj hn => (k.block j (Nat.lt_of_lt_of_le hj h.size) hn).trans (h.block j hj hn)⟩
theorem grown_same (w : World) (r : Option Nat) : w.grownBy w r := ⟨rfl, rfl, rfl, Nat.le_refl _, fun _ _ _ => rfl⟩
/-- What grows by a row that is not older than N leaves all below N as it was. -/
theorem below_grown {N : Nat} {w w1 w2 : World} {r : Option Nat} (h : Below N w w1) (hg : w1.grownBy w2 r) (hs : N ≤ w1.heap.size) (hr : ∀ k, r = some k → N ≤ k) : Below N w w2 := h.grown hg hs hr

theorem news_of {α : Type} {mk : α → Value} {w : World} {b off : Nat} {l : List α} (h : At mk w b off l) : ∀ j u, (l.map mk)[j]? = some u → w.cell? ((⟨b, off, none⟩ : Addr).add j) = some u := by
  intro j u hj
  have ha : ((⟨b, off, none⟩ : Addr).add j) = ⟨b, off + j, none⟩ := by unfold Addr.add; split <;> simp_all
  rw [ha]
  rw [List.getElem?_map, Option.map_eq_some_iff] at hj
  obtain ⟨y, hy, rfl⟩ := hj
  obtain ⟨hi, rfl⟩ := List.getElem?_eq_some_iff.1 hy
  exact h j hi
theorem ones_of {α : Type} {mk : α → Value} (hmk : ∀ x, (mk x).oneCell' = true) (l : List α) : ∀ u ∈ l.map mk, u.oneCell' = true := by
  intro u h
  obtain ⟨x, _, rfl⟩ := List.mem_map.1 h
  exact hmk x
theorem run_append_none_any {P : Program} (w : World) (base : Nat) (t ty e : TypeId) (i : TypeInfo) (size : Nat) (ht : P.underlying t = some (.slice e)) (hi : P.info? e = some i)
    (v : Value) (n : Nat) (xs : List Value) (hown : w.ownsRow base e size v n xs) (c : Nat) :
    (Builtin.append_ #[t, t] ty #[v, .slice none 0 c]).run P w = .ok v w := by
  rcases hown.2 with ⟨rfl, rfl⟩ | ⟨g, cap, cur, rfl, _, _, hnc, _⟩
  · simp [Builtin.append_, run_underlying ht, sizeOf, typeInfo, hi, Builtin.lenOf, Builtin.firstCells]
  · simp [Builtin.append_, run_underlying ht, sizeOf, typeInfo, hi, Builtin.lenOf, Builtin.firstCells, hnc, storeCells]

theorem run_append_in {P : Program} (w : World) (base : Nat) (t ty e : TypeId) (i : TypeInfo) (z : Value) (bytes : Nat) (ht : P.underlying t = some (.slice e)) (hi : P.info? e = some i) (hz : i.zero = some z)
    (hsize : i.size = 1) (hby : i.bytes = bytes) (hzs : z.cells.size = 1)
    (v : Value) (n : Nat) (xs : List Value) (hown : w.ownsRow base e 1 v n xs)
    {α : Type} (mk : α → Value) (hmk : ∀ x, (mk x).oneCell' = true) (p : Option Addr) (m c : Nat) (l : List α) (hin : In mk w p m c l)
    (h63 : n + m ≤ maxLen) (hbytes : (n + m) * bytes ≤ 140737488355328) (hbase : base ≤ w.heap.size) :
    ∃ v' w', (Builtin.append_ #[t, t] ty #[v, .slice p m c]).run P w = .ok v' w' ∧ w'.ownsRow base e 1 v' (n + m) (xs ++ l.map mk) ∧ w.grownBy w' v.ownBlock := by
  cases p with
  | none =>
    obtain ⟨hm, h0 | ⟨b, off, hp, _⟩⟩ := hin
    · subst h0
      have : l = [] := List.length_eq_zero_iff.1 hm.symm
      subst this
      refine ⟨v, w, run_append_none_any w base t ty e i 1 ht hi v n xs hown c, by simpa using hown, grown_same w _⟩
    · simp at hp
  | some ad =>
    have hnews : ∀ j u, (l.map mk)[j]? = some u → w.cell? (ad.add j) = some u := by
      obtain ⟨hm, h0 | ⟨b, off, hp, _, _, hat⟩⟩ := hin
      · have : l = [] := List.length_eq_zero_iff.1 (by omega)
        subst this
        intro j u h; simp at h
      · obtain rfl : ad = ⟨b, off, none⟩ := by simpa using hp
        exact news_of hat
    obtain ⟨v', w', h1, h2, h3, _⟩ := run_append_own (P := P) w base t ty e i z 1 bytes ht hi hz hsize hby hzs (by omega) v n xs hown ad m c (l.map mk) (by simp [hin.1]) hnews (ones_of hmk l) h63 hbytes hbase
    exact ⟨v', w', h1, h2, h3⟩

theorem wpList_append_in {P : Program} (w : World) {ops : Array Oper} {rest : List Oper} {o : Oper} {a : Act} {Q : Exit → Act → World → Prop} (hgd : o.guard = none) (s x : Operand) (t : TypeId)
    (ho : o.op = .call { callee := .builtin .append, args := #[s, x], argTypes := #[t, t] })
    (base : Nat) (e : TypeId) (i : TypeInfo) (z : Value) (bytes : Nat) (ht : P.underlying t = some (.slice e)) (hi : P.info? e = some i) (hz : i.zero = some z)
    (hsize : i.size = 1) (hby : i.bytes = bytes) (hzs : z.cells.size = 1)
    (v : Value) (n : Nat) (xs : List Value) (hs : a.eval s = v) (hown : w.ownsRow base e 1 v n xs)
    {α : Type} (mk : α → Value) (hmk : ∀ x, (mk x).oneCell' = true) (p : Option Addr) (m c : Nat) (l : List α) (hx : a.eval x = .slice p m c) (hin : In mk w p m c l)
    (h63 : n + m ≤ maxLen) (hbytes : (n + m) * bytes ≤ 140737488355328) (hbase : base ≤ w.heap.size)
    (h : ∀ v' w', w'.ownsRow base e 1 v' (n + m) (xs ++ l.map mk) → w.grownBy w' v.ownBlock → wpList P ops Q rest (a.put o.dst v') w') : wpList P ops Q (o :: rest) a w := by
  obtain ⟨v', w', hr, h2, h3⟩ := run_append_in (P := P) w base t o.type e i z bytes ht hi hz hsize hby hzs v n xs hown mk hmk p m c l hin h63 hbytes hbase
  refine wpList_plain hgd fun K hK => ?_
  unfold Oper.wp execOp
  simp only [ho, resolve, invoke, builtin, Sem.run_bind, Sem.run_pure, Result.andThen_ok, List.map_toArray, List.map_cons, List.map_nil, hs, hx, hr]
  exact hK _ _ (h v' w' h2 h3)

theorem oneI (x : Int) : (mkI x).oneCell' = true := rfl

/-- The six cells of a branch at a place. -/
def BrAt (w : World) (b o : Nat) (h : Hd) : Prop :=
  w.cell? ⟨b, o, none⟩ = some (.int .i64 h.k) ∧ w.cell? ⟨b, o + 1, none⟩ = some (.int .i64 h.m) ∧ w.cell? ⟨b, o + 2, none⟩ = some (.int .i64 h.f) ∧
  w.cell? ⟨b, o + 3, none⟩ = some (.int .i64 h.t) ∧ w.cell? ⟨b, o + 4, none⟩ = some (.slice h.np h.nn h.nc) ∧ w.cell? ⟨b, o + 5, none⟩ = some (.slice h.kp h.kn h.kc)
/-- A branch as a value. -/
abbrev Hd.val (h : Hd) : Value := .agg #[.int .i64 h.k, .int .i64 h.m, .int .i64 h.f, .int .i64 h.t, .slice h.np h.nn h.nc, .slice h.kp h.kn h.kc]
/-- Branches that lie one behind the other. -/
def KidsAt (w : World) (b off : Nat) (ks : List Br) : Prop := ∀ i, (h : i < ks.length) → BrAt w b (off + i * 6) ks[i].h
/-- A slice of branches reads as these. -/
def KidsIn (w : World) (p : Option Addr) (n cap : Nat) (ks : List Br) : Prop :=
  n = ks.length ∧ (n = 0 ∨ ∃ b off, p = some ⟨b, off, none⟩ ∧ n ≤ cap ∧ b < w.heap.size ∧ KidsAt w b off ks)
mutual
/-- What a branch holds lies as it says. -/
def Br.Lies (w : World) : Br → Prop
  | .mk h ks => In mkI w h.np h.nn h.nc h.ns ∧ KidsIn w h.kp h.kn h.kc ks ∧ AllLie w ks
def AllLie (w : World) : List Br → Prop
  | [] => True
  | b :: r => b.Lies w ∧ AllLie w r
end
theorem allLie_iff (w : World) (ks : List Br) : AllLie w ks ↔ ∀ b ∈ ks, b.Lies w := by
  induction ks with
  | nil => simp [AllLie]
  | cons x r ih => simp [AllLie, ih]
theorem lies_iff (w : World) (b : Br) : b.Lies w ↔ In mkI w b.h.np b.h.nn b.h.nc b.h.ns ∧ KidsIn w b.h.kp b.h.kn b.h.kc b.ks ∧ ∀ x ∈ b.ks, x.Lies w := by
  cases b; simp only [Br.Lies, Br.h, Br.ks, allLie_iff]
theorem BrAt.step {w w1 : World} {b o : Nat} {h : Hd} (hat : BrAt w b o h) (hb : b < w.heap.size) (hw : Below w.heap.size w w1) : BrAt w1 b o h := by
  obtain ⟨h0, h1, h2, h3, h4, h5⟩ := hat
  exact ⟨(hw.cell (p := ⟨b, _, none⟩) hb).trans h0, (hw.cell (p := ⟨b, _, none⟩) hb).trans h1, (hw.cell (p := ⟨b, _, none⟩) hb).trans h2, (hw.cell (p := ⟨b, _, none⟩) hb).trans h3, (hw.cell (p := ⟨b, _, none⟩) hb).trans h4, (hw.cell (p := ⟨b, _, none⟩) hb).trans h5⟩
theorem KidsIn.step {w w1 : World} {p : Option Addr} {n cap : Nat} {ks : List Br} (h : KidsIn w p n cap ks) (hw : Below w.heap.size w w1) : KidsIn w1 p n cap ks := by
  obtain ⟨hn, h0 | ⟨b, off, hp, hc, hb, hat⟩⟩ := h
  · exact ⟨hn, .inl h0⟩
  · exact ⟨hn, .inr ⟨b, off, hp, hc, Nat.lt_of_lt_of_le hb hw.size, fun i hi => (hat i hi).step hb hw⟩⟩
theorem Br.Lies.step {w w1 : World} (b : Br) (hl : b.Lies w) (hw : Below w.heap.size w w1) : b.Lies w1 := by
  induction b using Br.ind with
  | hP h ks ih =>
    rw [lies_iff] at hl ⊢
    exact ⟨hl.1.step hw, hl.2.1.step hw, fun x hx => ih x hx (hl.2.2 x hx)⟩
/-- The six cells, from a block that holds them. -/
theorem brAt_new (w : World) (h : Hd) (t : TypeId) : BrAt (w.alloc (.cells #[.int .i64 h.k, .int .i64 h.m, .int .i64 h.f, .int .i64 h.t, .slice h.np h.nn h.nc, .slice h.kp h.kn h.kc] t)) w.heap.size 0 h := by
  have hb := heap_alloc_new w (.cells #[.int .i64 h.k, .int .i64 h.m, .int .i64 h.f, .int .i64 h.t, .slice h.np h.nn h.nc, .slice h.kp h.kn h.kc] t)
  refine ⟨?_, ?_, ?_, ?_, ?_, ?_⟩ <;> (rw [Lib.cell_of_heap hb]; rfl)
theorem BrAt.box {w : World} {b : Nat} {h : Hd} (hat : BrAt w b 0 h) : w.cell? ⟨b, 0, none⟩ = some (.int .i64 h.k) ∧ w.cell? ⟨b, 1, none⟩ = some (.int .i64 h.m) ∧ w.cell? ⟨b, 2, none⟩ = some (.int .i64 h.f) ∧
    w.cell? ⟨b, 3, none⟩ = some (.int .i64 h.t) ∧ w.cell? ⟨b, 4, none⟩ = some (.slice h.np h.nn h.nc) ∧ w.cell? ⟨b, 5, none⟩ = some (.slice h.kp h.kn h.kc) := by
  simpa [BrAt] using hat
abbrev Hd.obj (h : Hd) : Obj := .cells #[.int .i64 h.k, .int .i64 h.m, .int .i64 h.f, .int .i64 h.t, .slice h.np h.nn h.nc, .slice h.kp h.kn h.kc] 25
/-- What a branch's box gives: the world behind it. -/
theorem boxed (w : World) (b : Br) (hl : b.Lies w) : ∃ w1, w1 = w.alloc b.h.obj ∧ BrAt w1 w.heap.size 0 b.h ∧ b.Lies w1 ∧ Below w.heap.size w w1 ∧ w1.heap.size = w.heap.size + 1 :=
  ⟨_, rfl, brAt_new w b.h 25, hl.step _ ((Below.refl w.heap.size w).alloc (Nat.le_refl _) _), (Below.refl w.heap.size w).alloc (Nat.le_refl _) _, by simp⟩
end Go.Proofs.Ytcijjeflojaocaa
