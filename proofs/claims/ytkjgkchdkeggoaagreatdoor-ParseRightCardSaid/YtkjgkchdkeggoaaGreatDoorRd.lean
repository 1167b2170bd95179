/-
  The reader of the parser: what it goes over, where it stands, and its smallest calls.
-/
import Derived.Test.YtkjgkchdkeggoaaGreatDoorCells
import Derived.Recover
import Derived.Defers
namespace Go.Proofs.YtkjgkchdkeggoaaGreatDoor
open Go.RowKit
set_option linter.unusedVariables false
set_option linter.unusedSimpArgs false

/-- A text and its tokens, and where a reader of them and its row of tokens lie. -/
structure Src where
  s : ByteArray
  ts : List Tok
  g : Nat
  gw : Nat
  cw : Nat
structure Src.Good (S : Src) : Prop where
  size : S.s.size ≤ 1000000
  len : S.ts.length ≤ 1000001
  inside : ∀ t ∈ S.ts, t.a ≤ t.e ∧ t.e ≤ S.s.size
  fin : ∀ i, (h : i < S.ts.length) → (S.ts[i].k = 0 ↔ i + 1 = S.ts.length)
  endt : ∀ t ∈ S.ts, t.k = 0 → t.a = t.e
  cap : S.ts.length ≤ S.cw
  apart : S.gw ≠ S.g
/-- The bytes, the kind and the place of token n. -/
def Src.tx (S : Src) (n : Nat) : ByteArray := match S.ts[n]? with | some t => S.s.extract t.a t.e | none => ⟨#[]⟩
def Src.kd (S : Src) (n : Nat) : Int := match S.ts[n]? with | some t => t.k | none => 0
def Src.pl (S : Src) (n : Nat) : Int := match S.ts[n]? with | some t => (t.a : Int) | none => 0
theorem Src.tx_at (S : Src) {n : Nat} (h : n < S.ts.length) : S.tx n = S.s.extract S.ts[n].a S.ts[n].e := by simp [Src.tx, h]
theorem Src.kd_at (S : Src) {n : Nat} (h : n < S.ts.length) : S.kd n = S.ts[n].k := by simp [Src.kd, h]
theorem Src.pl_at (S : Src) {n : Nat} (h : n < S.ts.length) : S.pl n = (S.ts[n].a : Int) := by simp [Src.pl, h]

/-- A reader stands at token n, with d parts around it. -/
structure Rd (w : World) (S : Src) (n d : Nat) : Prop where
  good : S.Good
  here : n < S.ts.length
  box : w.heap[S.g]? = some (.cells #[.string S.s, .slice (some ⟨S.gw, 0, none⟩) S.ts.length S.cw, .int .i64 (n : Int), .int .i64 (d : Int)] 66 (0, 0))
  row : S.gw < w.heap.size
  toks : TokCells w S.gw S.ts
  deep : d ≤ 256
theorem Rd.lt {w : World} {S : Src} {n d : Nat} (h : Rd w S n d) : S.g < w.heap.size := (Array.getElem?_eq_some_iff.1 h.box).1
theorem Rd.step {w w' : World} {S : Src} {n d : Nat} (h : Rd w S n d) (hb : Below w.heap.size w w') : Rd w' S n d :=
  ⟨h.good, h.here, (hb.block _ h.lt).trans h.box, Nat.lt_of_lt_of_le h.row hb.size, h.toks.step h.row hb, h.deep⟩
theorem Rd.cell {w : World} {S : Src} {n d : Nat} (h : Rd w S n d) (o : Nat) : w.cell? ⟨S.g, o, none⟩ = (#[.string S.s, .slice (some ⟨S.gw, 0, none⟩) S.ts.length S.cw, .int .i64 (n : Int), .int .i64 (d : Int)] : Array Value)[o]? := Lib.cell_of_heap h.box o
theorem Rd.c0 {w : World} {S : Src} {n d : Nat} (h : Rd w S n d) : w.cell? ⟨S.g, 0, none⟩ = some (.string S.s) := by rw [h.cell]; rfl
theorem Rd.c1 {w : World} {S : Src} {n d : Nat} (h : Rd w S n d) : w.cell? ⟨S.g, 1, none⟩ = some (.slice (some ⟨S.gw, 0, none⟩) S.ts.length S.cw) := by rw [h.cell]; rfl
theorem Rd.c2 {w : World} {S : Src} {n d : Nat} (h : Rd w S n d) : w.cell? ⟨S.g, 2, none⟩ = some (.int .i64 (n : Int)) := by rw [h.cell]; rfl
theorem Rd.c3 {w : World} {S : Src} {n d : Nat} (h : Rd w S n d) : w.cell? ⟨S.g, 3, none⟩ = some (.int .i64 (d : Int)) := by rw [h.cell]; rfl
theorem Rd.free {w : World} {S : Src} {n d : Nat} (h : Rd w S n d) (o : Nat) : w.frozen? ⟨S.g, o, none⟩ = false := by simp [World.frozen?, h.box]

theorem rkind_any (S : Src) (n d : Nat) (w : World) (h : Rd w S n d) : Calls Tryz.prog 37 #[.pointer (some ⟨S.g, 0, none⟩)] w fun e w' => e = .returned (.int .i64 (S.kd n)) ∧ Below w.heap.size w w' := by
  have c1 := h.c1
  have c2 := h.c2
  obtain ⟨t0, t1, t2⟩ := h.toks n h.here
  have hn1 : (0 : Int) ≤ (n : Int) := by omega
  have hn2 : (n : Int) < (S.ts.length : Int) := by have := h.here; omega
  have HK := Lib.hid (S.kd_at h.here)
  rw [← HK.out] at t0
  clear t1 t2 HK h
  go_enter Tryz.func37, Tryz.ntmps37
  go_wp2_with fail
  go_quiet (fail)
  go_wp2_with fail
  go_ret
  exact ⟨rfl, below_drewN (Below.refl _ _) _⟩
theorem rplace_any (S : Src) (n d : Nat) (w : World) (h : Rd w S n d) : Calls Tryz.prog 58 #[.pointer (some ⟨S.g, 0, none⟩)] w fun e w' => e = .returned (.int .i64 (S.pl n)) ∧ Below w.heap.size w w' := by
  have c1 := h.c1
  have c2 := h.c2
  obtain ⟨t0, t1, t2⟩ := h.toks n h.here
  have hn1 : (0 : Int) ≤ (n : Int) := by omega
  have hn2 : (n : Int) < (S.ts.length : Int) := by have := h.here; omega
  have HK := Lib.hid (S.pl_at h.here)
  rw [← HK.out] at t1
  clear t0 t2 HK h
  go_enter Tryz.func58, Tryz.ntmps58
  go_wp2_with fail
  go_quiet (fail)
  go_wp2_with fail
  go_ret
  exact ⟨rfl, below_drewN (Below.refl _ _) _⟩
theorem rtext_any (S : Src) (n d m : Nat) (w : World) (h : Rd w S n d) (hm : m < S.ts.length) : Calls Tryz.prog 69 #[.pointer (some ⟨S.g, 0, none⟩), .int .i64 (m : Int)] w fun e w' => e = .returned (.string (S.tx m)) ∧ Below w.heap.size w w' := by
  have c0 := h.c0
  have c1 := h.c1
  obtain ⟨t0, t1, t2⟩ := h.toks m hm
  have hn1 : (0 : Int) ≤ (m : Int) := by omega
  have hn2 : (m : Int) < (S.ts.length : Int) := by omega
  obtain ⟨i1, i2⟩ := h.good.inside S.ts[m] (List.getElem_mem hm)
  have hz := h.good.size
  have HK := Lib.hid (S.tx_at hm)
  rw [HK.out]
  clear t0 h HK
  generalize S.ts[m].a = a at *
  generalize S.ts[m].e = e at *
  have hsl : ∀ w, Sem.run Tryz.prog (Instr.slice 9 (.string S.s) (some (.int .i64 a)) (some (.int .i64 e)) none) w = .ok (.string (S.s.extract a e)) w := fun w => by
    have := run_slice_string (P := Tryz.prog) (w := w) 9 S.s .i64 .i64 (a : Int) (e : Int) Tryz.underlying9 (by omega) (by omega) (by omega)
    exact this
  go_enter Tryz.func69, Tryz.ntmps69
  go_wp2_with fail
  go_quiet (fail)
  go_wp2_with fail
  go_ret
  exact ⟨rfl, below_drewN (Below.refl _ _) _⟩
end Go.Proofs.YtkjgkchdkeggoaaGreatDoor
