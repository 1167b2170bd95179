/-
  Whether a graph is right: plain facts; the question whether an occurrence declares, walked.
-/
import Derived.Test.YtggoajpemffbiaaFam
namespace Go.Proofs.Ytggoajpemffbiaa
open Go.RowKit
set_option maxRecDepth 20000
set_option linter.unusedVariables false
set_option linter.unusedSimpArgs false

/-- An occurrence. -/
structure Oc where
  f : Int
  a : Int
  e : Int
  s : Int
  d : Bool
structure OcC (w : World) (g j : Nat) (x : Oc) : Prop where
  c0 : w.cell? ⟨g, j, none⟩ = some (.int .i64 x.f)
  c1 : w.cell? ⟨g, j + 1, none⟩ = some (.int .i64 x.a)
  c2 : w.cell? ⟨g, j + 2, none⟩ = some (.int .i64 x.e)
  c3 : w.cell? ⟨g, j + 3, none⟩ = some (.int .i64 x.s)
  c4 : w.cell? ⟨g, j + 4, none⟩ = some (.bool x.d)
/-- A row of occurrences. -/
def OS (w : World) (q : Option Addr) (n c : Nat) (l : List Oc) : Prop :=
  n = l.length ∧ (n = 0 ∨ ∃ g o, q = some ⟨g, o, none⟩ ∧ n ≤ c ∧ g < w.heap.size ∧ ∀ i x, l[i]? = some x → OcC w g (o + i * 5) x)
theorem OS.step {w w1 : World} {q : Option Addr} {n c : Nat} {l : List Oc} (h : OS w q n c l) (hw : Below w.heap.size w w1) : OS w1 q n c l := by
  obtain ⟨hn, h0 | ⟨g, o, hq, hc, hg, hat⟩⟩ := h
  · exact ⟨hn, .inl h0⟩
  · exact ⟨hn, .inr ⟨g, o, hq, hc, Nat.lt_of_lt_of_le hg hw.size, fun i x hi => by
      obtain ⟨a0, a1, a2, a3, a4⟩ := hat i x hi
      exact ⟨(hw.cell (p := ⟨g, _, none⟩) hg).trans a0, (hw.cell (p := ⟨g, _, none⟩) hg).trans a1, (hw.cell (p := ⟨g, _, none⟩) hg).trans a2, (hw.cell (p := ⟨g, _, none⟩) hg).trans a3, (hw.cell (p := ⟨g, _, none⟩) hg).trans a4⟩⟩⟩
/-- Does a number's occurrence declare? -/
def decl (O : List Oc) (x : Int) : Bool := decide (0 ≤ x) && (match O[x.toNat]? with | some o => o.d | none => false)
def spc (O : List Oc) (x : Int) : Int := match O[x.toNat]? with | some o => o.s | none => 0
def okE (O : List Oc) (i : Nat) (o : Oc) (e v : Int) : Bool := decl O e && (spc O e == o.s) && !decide (v < -1) && (!o.d || (decide (e = (i : Int)) && decide (v = -1)))
def okI (O : List Oc) (E V : List Int) (i : Nat) : Bool := match O[i]?, E[i]?, V[i]? with
  | some o, some e, some v => okE O i o e v
  | _, _, _ => true
/-- Is the pair ahead less? -/
def lessAt (L : List P2) (p : P2) : Nat → Bool
  | 0 => true
  | j + 1 => match L[j]? with | some q => plt q p | none => true
theorem lessAt_at {L : List P2} {p z : P2} {j : Nat} (h : L[j]? = some z) : lessAt L p (j + 1) = plt z p := by
  show (match L[j]? with | some q => plt q p | none => true) = _
  rw [h]
def okP (O : List Oc) (L : List P2) (i : Nat) (p : P2) : Bool := decl O p.1 && decl O p.2 && decide (p.1 < p.2) && (spc O p.1 == spc O p.2) && lessAt L p i
def okL (O : List Oc) (L : List P2) (i : Nat) : Bool := match L[i]? with
  | some p => okP O L i p
  | none => true
def lensB (E : List Int) (V : List Int) (O : List Oc) : Bool := decide (E.length = O.length) && decide (V.length = O.length)
def rightB (E : List Int) (L : List P2) (V : List Int) (O : List Oc) : Bool := lensB E V O && (List.range O.length).all (okI O E V) && (List.range L.length).all (okL O L)
theorem decl_in {O : List Oc} {x : Int} (h : decl O x = true) : ∃ (i : Nat) (o : Oc), x = (i : Int) ∧ O[i]? = some o ∧ o.d = true := by
  unfold decl at h
  rw [Bool.and_eq_true] at h
  obtain ⟨h1, h2⟩ := h
  simp only [decide_eq_true_eq] at h1
  cases ho : O[x.toNat]? with
  | none => rw [ho] at h2; cases h2
  | some o => rw [ho] at h2; exact ⟨x.toNat, o, by omega, ho, h2⟩
theorem spc_at {O : List Oc} {i : Nat} {o : Oc} (h : O[i]? = some o) : spc O (i : Int) = o.s := by
  unfold spc; simp [h]
theorem decl_at {O : List Oc} {i : Nat} {o : Oc} (h : O[i]? = some o) : decl O (i : Int) = o.d := by
  unfold decl; simp [h]
theorem decl_out {O : List Oc} {x : Int} (h : ¬ (0 ≤ x ∧ x < O.length)) : decl O x = false := by
  unfold decl
  by_cases h0 : 0 ≤ x
  · have : O[x.toNat]? = none := List.getElem?_eq_none (by omega)
    simp [this]
  · simp [h0]
theorem right_no_len {E : List Int} {L : List P2} {V : List Int} {O : List Oc} (h : lensB E V O = false) : rightB E L V O = false := by unfold rightB; simp [h]
theorem right_no_e {E : List Int} {L : List P2} {V : List Int} {O : List Oc} {i : Nat} (hi : i < O.length) (h : okI O E V i = false) : rightB E L V O = false := by
  unfold rightB
  have : (List.range O.length).all (okI O E V) = false := by
    rw [List.all_eq_false]
    exact ⟨i, by simp [hi], by simp [h]⟩
  simp [this]
theorem right_no_l {E : List Int} {L : List P2} {V : List Int} {O : List Oc} {i : Nat} (hi : i < L.length) (h : okL O L i = false) : rightB E L V O = false := by
  unfold rightB
  have : (List.range L.length).all (okL O L) = false := by
    rw [List.all_eq_false]
    exact ⟨i, by simp [hi], by simp [h]⟩
  simp [this]
theorem right_yes {E : List Int} {L : List P2} {V : List Int} {O : List Oc} (h : lensB E V O = true) (h1 : ∀ i, i < O.length → okI O E V i = true) (h2 : ∀ i, i < L.length → okL O L i = true) : rightB E L V O = true := by
  unfold rightB
  rw [h]
  have e1 : (List.range O.length).all (okI O E V) = true := by simp only [List.all_eq_true, List.mem_range]; exact h1
  have e2 : (List.range L.length).all (okL O L) = true := by simp only [List.all_eq_true, List.mem_range]; exact h2
  rw [e1, e2]; rfl
set_option maxHeartbeats 4000000 in
theorem decl_any (x : Int) (bx : Nat) (q : Option Addr) (n c : Nat) (O : List Oc) (w : World) (hb : w.cell? ⟨bx, 0, none⟩ = some (.slice q n c)) (hO : OS w q n c O) :
    Calls Try.prog 20 #[.int .i64 x, .pointer (some ⟨bx, 0, none⟩)] w fun e w' => e = .returned (.bool (decl O x)) ∧ w' = w := by
  have hn := hO.1
  by_cases h0 : 0 ≤ x
  · by_cases h1 : x < (n : Int)
    · obtain ⟨i, rfl⟩ : ∃ i : Nat, x = (i : Int) := ⟨x.toNat, by omega⟩
      have hin : i < n := by omega
      obtain ⟨hxx, hz | ⟨g, o, rfl, hc, hg, hat⟩⟩ := hO
      · omega
      obtain ⟨y, hy⟩ : ∃ y, O[i]? = some y := ⟨_, List.getElem?_eq_getElem (by omega)⟩
      have c4 := (hat i y hy).c4
      have HD := Lib.hid (decl_at hy)
      clear hat hxx hn hy
      generalize y.d = b at *
      go_enter Try.func20, Try.ntmps20
      go_wp2_with fail
      go_ret
      exact ⟨by rw [HD.out]; rfl, rfl⟩
    · have HD := Lib.hid (decl_out (O := O) (x := x) (by omega))
      clear hn hO
      go_enter Try.func20, Try.ntmps20
      go_wp2_with fail
      go_ret
      exact ⟨by rw [HD.out]; rfl, rfl⟩
  · have HD := Lib.hid (decl_out (O := O) (x := x) (by omega))
    clear hn hO
    go_enter Try.func20, Try.ntmps20
    go_wp2_with fail
    go_ret
    exact ⟨by rw [HD.out]; rfl, rfl⟩
end Go.Proofs.Ytggoajpemffbiaa
