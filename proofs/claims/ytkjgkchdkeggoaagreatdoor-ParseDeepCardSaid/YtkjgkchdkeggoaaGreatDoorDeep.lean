/-
  Texts within parentheses, as tokens.; What lies within parentheses, and within lets: the plain parser's way.; What lies within lets: the plain parser's way; the tokens of both kinds of texts.; The tokens of texts within parentheses, and within lets.; The tokens of texts within lets.; nested: a text within so many parentheses.; What lies within itself: the law's walk.
-/
import Derived.Test.YtkjgkchdkeggoaaGreatDoorFiles
namespace Go.Proofs.YtkjgkchdkeggoaaGreatDoor
open Go.RowKit
set_option maxRecDepth 20000
set_option linter.unusedVariables false
set_option linter.unusedSimpArgs false

theorem tok41 (r : List UInt8) : tokN (41 :: r) = (11, 1) := (by rfl : tokN (41 :: r) = (plainN [41], 1)).trans (by rw [plain_of (by decide) k_41 rfl])
theorem tok40 (c : UInt8) (r : List UInt8) (h : eqB c 42 = false) : tokN (40 :: c :: r) = (11, 1) := by
  have e : tokN (40 :: c :: r) = bif eqB c 42 then noteN (40 :: c :: r) else (plainN [40], 1) := rfl
  rw [e, h, plain_of (by decide) k_40 rfl]; rfl
theorem tok120 (r : List UInt8) (h : passN (pureF restB) () r = 0) : tokN (120 :: r) = (6, 1) := by
  have e : tokN (120 :: r) = (plainN ((120 :: r).take (passN (pureF restB) () r + 1)), passN (pureF restB) () r + 1) := rfl
  rw [e, h]
  show (plainN [120], 1) = _
  rw [plain_of (by decide) k_120 rfl]
theorem tokLet (r : List UInt8) : tokN (108 :: 101 :: 116 :: 32 :: r) = (10, 3) := (by rfl : tokN (108 :: 101 :: 116 :: 32 :: r) = (plainN [108, 101, 116], 3)).trans (by
  have : kindN (bsOf [108, 101, 116]) = 10 := by unfold kindN kwB mkB; rw [inB_dec, inB_dec, beg_eq _ (by decide)]; decide
  rw [plain_of (by decide) this rfl])
theorem tokIn (r : List UInt8) : tokN (105 :: 110 :: 32 :: r) = (10, 2) := (by rfl : tokN (105 :: 110 :: 32 :: r) = (plainN [105, 110], 2)).trans (by
  have : kindN (bsOf [105, 110]) = 10 := by unfold kindN kwB mkB; rw [inB_dec, inB_dec, beg_eq _ (by decide)]; decide
  rw [plain_of (by decide) this rfl])
theorem tokEnd (r : List UInt8) (h : passN (pureF restB) () r = 0) : tokN (101 :: 110 :: 100 :: r) = (10, 3) := by
  have e : tokN (101 :: 110 :: 100 :: r) = (plainN ((101 :: 110 :: 100 :: r).take (passN (pureF restB) () r + 3)), passN (pureF restB) () r + 3) := rfl
  rw [e, h]
  show (plainN [101, 110, 100], 3) = _
  have : kindN (bsOf [101, 110, 100]) = 10 := by unfold kindN kwB mkB; rw [inB_dec, inB_dec, beg_eq _ (by decide)]; decide
  rw [plain_of (by decide) this rfl]
theorem tok32 (c : UInt8) (r : List UInt8) (h : blankB c = false) : tokN (32 :: c :: r) = (1, 1) := by
  have e : tokN (32 :: c :: r) = (1, (bif blankB c then passN (pureF blankB) () r + 1 else 0) + 1) := rfl
  rw [e, h]; rfl
end Go.Proofs.YtkjgkchdkeggoaaGreatDoor

namespace Go.Proofs.YtkjgkchdkeggoaaGreatDoor
open Go.RowKit
set_option maxRecDepth 20000
set_option linter.unusedVariables false
set_option linter.unusedSimpArgs false

/-- Tokens: parentheses, x, parentheses. -/
structure Par (S : Src) (n : Nat) : Prop where
  o : ∀ i, i < n → S.kd i = 11 ∧ (S.tx i).data.toList = [40] ∧ S.pl i = (i : Int)
  x : S.kd n = 6 ∧ (S.tx n).data.toList = [120]
  c : ∀ i, n < i → i ≤ 2 * n → S.kd i = 11 ∧ (S.tx i).data.toList = [41]
  e : S.kd (2 * n + 1) = 0 ∧ (S.tx (2 * n + 1)).data.toList = []
/-- What stands behind what is read: a parenthesis, or the end. -/
def Shut (S : Src) (m : Nat) : Prop := (S.kd m = 11 ∧ (S.tx m).data.toList = [41]) ∨ (S.kd m = 0 ∧ (S.tx m).data.toList = [])
theorem Par.shut {S : Src} {n : Nat} (P : Par S n) (m : Nat) (h1 : n < m) (h2 : m ≤ 2 * n + 1) : Shut S m := by
  rcases Nat.lt_or_ge (2 * n) m with h | h
  · have : m = 2 * n + 1 := by omega
    subst this
    exact .inr P.e
  · exact .inl (P.c m h1 h)
theorem Par.nopen {S : Src} {n : Nat} (P : Par S n) (p : Nat) (h : p < n) : (S.tx (p + 1)).data.toList = [40] ∨ (S.tx (p + 1)).data.toList = [120] := by
  rcases Nat.lt_or_ge (p + 1) n with h1 | h1
  · exact .inl (P.o _ h1).2.1
  · have : p + 1 = n := by omega
    rw [this]
    exact .inr P.x.2
section
variable {S : Src} {g d p m : Nat} {rec : Nt → Nat → Nat → Out Pb} {b : Pb}
theorem exp_open (hk : S.kd p = 11) (hT : (S.tx p).data.toList = [40]) (hN : (S.tx (p + 1)).data.toList = [40] ∨ (S.tx (p + 1)).data.toList = [120]) (hr : rec .exp d (p + 1) = .ok b m) (hm : (S.tx m).data.toList = [41]) (hs : Shut S (m + 1)) :
    expO S (g + 1) rec d p = .ok b (m + 1) := by
  rcases hs with ⟨k2, t2⟩ | ⟨k2, t2⟩ <;> rcases hN with hN | hN <;>
  simp [expO, infixO, callO, atomO, plainO, tupleO, rowO, rowL, callL, infixL, oneOr, Src.is, Src.need, Src.begins, Src.beginsK, hk, hT, hN, hr, hm, k2, t2, Out.bind]
theorem exp_deep (hk : S.kd p = 11) (hT : (S.tx p).data.toList = [40]) (hN : (S.tx (p + 1)).data.toList = [40] ∨ (S.tx (p + 1)).data.toList = [120]) (hr : rec .exp d (p + 1) = .deep m) : expO S (g + 1) rec d p = .deep m := by
  rcases hN with hN | hN <;>
  simp [expO, infixO, callO, atomO, plainO, tupleO, rowO, Src.is, hk, hT, hN, hr, Out.bind]
theorem exp_x (hk : S.kd p = 6) (hT : (S.tx p).data.toList = [120]) (hs : Shut S (p + 1)) : expO S (g + 1) rec d p = .ok (node 28 p (p + 1) [p] []) (p + 1) := by
  rcases hs with ⟨k2, t2⟩ | ⟨k2, t2⟩ <;>
  simp [expO, infixO, callO, atomO, plainO, callL, infixL, oneOr, Src.is, Src.value, Src.take, Src.begins, Src.beginsK, hk, hT, k2, t2, Out.bind]
theorem pat_open (hk : S.kd p = 11) (hT : (S.tx p).data.toList = [40]) (hN : (S.tx (p + 1)).data.toList = [40] ∨ (S.tx (p + 1)).data.toList = [120]) (hr : rec .pat d (p + 1) = .ok b m) (hm : (S.tx m).data.toList = [41]) :
    patO S (g + 1) rec d p = .ok b (m + 1) := by
  rcases hN with hN | hN <;>
  simp [patO, atomicPatO, plainO, tupleO, rowO, rowL, oneOr, Src.is, Src.need, hk, hT, hN, hr, hm, Out.bind]
theorem pat_deep (hk : S.kd p = 11) (hT : (S.tx p).data.toList = [40]) (hN : (S.tx (p + 1)).data.toList = [40] ∨ (S.tx (p + 1)).data.toList = [120]) (hr : rec .pat d (p + 1) = .deep m) : patO S (g + 1) rec d p = .deep m := by
  rcases hN with hN | hN <;>
  simp [patO, atomicPatO, plainO, tupleO, rowO, Src.is, hk, hT, hN, hr, Out.bind]
theorem pat_x (hk : S.kd p = 6) (hT : (S.tx p).data.toList = [120]) (hs : Shut S (p + 1)) : patO S (g + 1) rec d p = .ok (node 39 p (p + 1) [p] []) (p + 1) := by
  rcases hs with ⟨k2, t2⟩ | ⟨k2, t2⟩ <;>
  simp [patO, atomicPatO, plainO, Src.is, Src.value, Src.take, hk, hT, k2, t2, Out.bind]
theorem ty_open (hk : S.kd p = 11) (hT : (S.tx p).data.toList = [40]) (hr : rec .ty d (p + 1) = .ok b m) (hm : (S.tx m).data.toList = [41]) (hs : Shut S (m + 1)) :
    tyO S (g + 1) rec d p = .ok b (m + 1) := by
  rcases hs with ⟨k2, t2⟩ | ⟨k2, t2⟩ <;>
  simp [tyO, productO, appliedO, atomicTyO, appliedL, rowO, rowL, oneOr, pick1, Src.is, Src.need, hk, hT, hr, hm, k2, t2, Out.bind]
theorem ty_deep (hk : S.kd p = 11) (hT : (S.tx p).data.toList = [40]) (hr : rec .ty d (p + 1) = .deep m) : tyO S (g + 1) rec d p = .deep m := by
  simp [tyO, productO, appliedO, atomicTyO, rowO, Src.is, hk, hT, hr, Out.bind]
theorem ty_x (hl : S.ts.length ≠ 0) (hk : S.kd p = 6) (hT : (S.tx p).data.toList = [120]) (hs : Shut S (p + 1)) : tyO S (g + 1) rec d p = .ok (node 42 p (p + 1) [p] []) (p + 1) := by
  obtain ⟨q, hq⟩ : ∃ q, S.ts.length = q + 1 := ⟨S.ts.length - 1, by omega⟩
  rcases hs with ⟨k2, t2⟩ | ⟨k2, t2⟩ <;>
  simp [tyO, productO, appliedO, atomicTyO, appliedL, rowO, rowL, oneOr, Src.is, Src.typePath, Src.path, Src.pathL, Src.take, hq, hk, hT, k2, t2, Out.bind]
end
theorem nest_ok {S : Src} {n : Nat} {nt : Nt} {x : Pb} (hn : n ≤ 255)
    (base : ∀ g, bodyOf S (g + 1) (parts S (g + 1)) (n + 1) nt n = .ok x (n + 1))
    (step : ∀ g p m, p < n → n < m → m ≤ 2 * n → parts S (g + 1) nt (p + 1) (p + 1) = .ok x m → bodyOf S (g + 1) (parts S (g + 1)) (p + 1) nt p = .ok x (m + 1)) :
    ∀ j, j ≤ n → ∀ g, parts S (g + j + 2) nt (n - j) (n - j) = .ok x (n + 1 + j) := by
  intro j
  induction j with
  | zero =>
    intro _ g
    have h : (n == 256) = false := by rw [beq_eq_false_iff_ne]; omega
    show (bif (n - 0) == 256 then _ else _) = _
    rw [Nat.sub_zero, h]
    exact base g
  | succ j ih =>
    intro hj g
    have e : n - j = n - (j + 1) + 1 := by omega
    have h := ih (by omega) g
    have hp : ((n - (j + 1)) == 256) = false := by rw [beq_eq_false_iff_ne]; omega
    show (bif (n - (j + 1)) == 256 then _ else _) = _
    rw [hp]
    rw [e] at h
    exact step (g + j + 1) (n - (j + 1)) (n + 1 + j) (by omega) (by omega) (by omega) h
theorem nest_deep {S : Src} {nt : Nt} (step : ∀ g p, p < 256 → parts S (g + 1) nt (p + 1) (p + 1) = .deep 256 → bodyOf S (g + 1) (parts S (g + 1)) (p + 1) nt p = .deep 256) :
    ∀ j, j ≤ 256 → ∀ g, parts S (g + j + 1) nt (256 - j) (256 - j) = .deep 256 := by
  intro j
  induction j with
  | zero => intro _ g; rfl
  | succ j ih =>
    intro hj g
    have e : 256 - j = 256 - (j + 1) + 1 := by omega
    have h := ih (by omega) g
    have hp : ((256 - (j + 1)) == 256) = false := by rw [beq_eq_false_iff_ne]; omega
    show (bif (256 - (j + 1)) == 256 then _ else _) = _
    rw [hp]
    rw [e] at h
    exact step (g + j) (256 - (j + 1)) (by omega) h
/-- Which of the three. -/
theorem par_ok {S : Src} {n : Nat} (P : Par S n) (hn : n ≤ 255) (hl : S.ts.length = 2 * n + 2) :
    partS .exp S = .ok (node 28 n (n + 1) [n] []) (2 * n + 1) ∧ partS .pat S = .ok (node 39 n (n + 1) [n] []) (2 * n + 1) ∧ partS .ty S = .ok (node 42 n (n + 1) [n] []) (2 * n + 1) := by
  have hf : fuel S = (n + 257) + n + 2 := by unfold fuel; omega
  have h2 : n + 1 + n = 2 * n + 1 := by omega
  unfold partS
  rw [hf]
  refine ⟨?_, ?_, ?_⟩
  · have := nest_ok (S := S) (nt := .exp) hn (fun g => exp_x P.x.1 P.x.2 (P.shut _ (by omega) (by omega))) (fun g p m hp hm hm2 h => exp_open (P.o p hp).1 (P.o p hp).2.1 (P.nopen p hp) h (P.c m hm hm2).2 (P.shut _ (by omega) (by omega))) n (Nat.le_refl _) (n + 257)
    rwa [Nat.sub_self, h2] at this
  · have := nest_ok (S := S) (nt := .pat) hn (fun g => pat_x P.x.1 P.x.2 (P.shut _ (by omega) (by omega))) (fun g p m hp hm hm2 h => pat_open (P.o p hp).1 (P.o p hp).2.1 (P.nopen p hp) h (P.c m hm hm2).2) n (Nat.le_refl _) (n + 257)
    rwa [Nat.sub_self, h2] at this
  · have := nest_ok (S := S) (nt := .ty) hn (fun g => ty_x (by omega) P.x.1 P.x.2 (P.shut _ (by omega) (by omega))) (fun g p m hp hm hm2 h => ty_open (P.o p hp).1 (P.o p hp).2.1 h (P.c m hm hm2).2 (P.shut _ (by omega) (by omega))) n (Nat.le_refl _) (n + 257)
    rwa [Nat.sub_self, h2] at this
theorem par_deep {S : Src} {n : Nat} (P : Par S n) (hn : 256 ≤ n) (hl : S.ts.length = 2 * n + 2) :
    partS .exp S = .deep 256 ∧ partS .pat S = .deep 256 ∧ partS .ty S = .deep 256 := by
  have hf : fuel S = (2 * n + 2) + 256 + 1 := by unfold fuel; omega
  unfold partS
  rw [hf]
  refine ⟨?_, ?_, ?_⟩
  · exact nest_deep (S := S) (nt := .exp) (fun g p hp h => exp_deep (P.o p (by omega)).1 (P.o p (by omega)).2.1 (P.nopen p (by omega)) h) 256 (Nat.le_refl _) (2 * n + 2)
  · exact nest_deep (S := S) (nt := .pat) (fun g p hp h => pat_deep (P.o p (by omega)).1 (P.o p (by omega)).2.1 (P.nopen p (by omega)) h) 256 (Nat.le_refl _) (2 * n + 2)
  · exact nest_deep (S := S) (nt := .ty) (fun g p hp h => ty_deep (P.o p (by omega)).1 (P.o p (by omega)).2.1 h) 256 (Nat.le_refl _) (2 * n + 2)
end Go.Proofs.YtkjgkchdkeggoaaGreatDoor

namespace Go.Proofs.YtkjgkchdkeggoaaGreatDoor
open Go.RowKit
set_option maxRecDepth 20000
set_option linter.unusedVariables false
set_option linter.unusedSimpArgs false

/-- Tokens: let in, x, end. -/
structure Lets (S : Src) (n : Nat) : Prop where
  l : ∀ i, i < n → (S.kd (2 * i) = 10 ∧ (S.tx (2 * i)).data.toList = [108, 101, 116] ∧ S.pl (2 * i) = ((7 * i : Nat) : Int)) ∧ S.kd (2 * i + 1) = 10 ∧ (S.tx (2 * i + 1)).data.toList = [105, 110]
  x : S.kd (2 * n) = 6 ∧ (S.tx (2 * n)).data.toList = [120]
  e : ∀ i, i < n → S.kd (2 * n + 1 + i) = 10 ∧ (S.tx (2 * n + 1 + i)).data.toList = [101, 110, 100]
  z : S.kd (3 * n + 1) = 0 ∧ (S.tx (3 * n + 1)).data.toList = []
def ShutE (S : Src) (m : Nat) : Prop := (S.kd m = 10 ∧ (S.tx m).data.toList = [101, 110, 100]) ∨ (S.kd m = 0 ∧ (S.tx m).data.toList = [])
theorem Lets.shut {S : Src} {n : Nat} (P : Lets S n) (j : Nat) (h : j ≤ n) : ShutE S (2 * n + 1 + j) := by
  rcases Nat.lt_or_ge j n with h1 | h1
  · exact .inl (P.e j h1)
  · have : 2 * n + 1 + j = 3 * n + 1 := by omega
    rw [this]
    exact .inr P.z
section
variable {S : Src} {g d p m : Nat} {rec : Nt → Nat → Nat → Out Pb} {b : Pb}
theorem let_open (hk : S.kd p = 10) (hT : (S.tx p).data.toList = [108, 101, 116]) (hk1 : S.kd (p + 1) = 10) (hT1 : (S.tx (p + 1)).data.toList = [105, 110]) (hr : rec .exp d (p + 1 + 1) = .ok b m) (hm : (S.tx m).data.toList = [101, 110, 100]) (hs : ShutE S (m + 1)) :
    expO S (g + 1) rec d p = .ok (node 35 p (m + 1) [] [node 2 (p + 1) (p + 1) [] [], b]) (m + 1) := by
  rcases hs with ⟨k2, t2⟩ | ⟨k2, t2⟩ <;>
  simp [expO, infixO, callO, atomO, withinO, decsO, decsL, declares, callL, infixL, oneOr, Src.is, Src.need, Src.begins, Src.beginsK, hk, hT, hk1, hT1, hr, hm, k2, t2, Out.bind]
theorem let_deep (hk : S.kd p = 10) (hT : (S.tx p).data.toList = [108, 101, 116]) (hk1 : S.kd (p + 1) = 10) (hT1 : (S.tx (p + 1)).data.toList = [105, 110]) (hr : rec .exp d (p + 1 + 1) = .deep m) : expO S (g + 1) rec d p = .deep m := by
  simp [expO, infixO, callO, atomO, withinO, decsO, decsL, declares, Src.is, Src.need, hk, hT, hk1, hT1, hr, Out.bind]
theorem exp_xe (hk : S.kd p = 6) (hT : (S.tx p).data.toList = [120]) (hs : ShutE S (p + 1)) : expO S (g + 1) rec d p = .ok (node 28 p (p + 1) [p] []) (p + 1) := by
  rcases hs with ⟨k2, t2⟩ | ⟨k2, t2⟩ <;>
  simp [expO, infixO, callO, atomO, plainO, callL, infixL, oneOr, Src.is, Src.value, Src.take, Src.begins, Src.beginsK, hk, hT, k2, t2, Out.bind]
end
theorem lets_ok' {S : Src} {n : Nat} (P : Lets S n) (hn : n ≤ 255) :
    ∀ j, j ≤ n → ∀ g, ∃ b, parts S (g + j + 2) .exp (n - j) (2 * (n - j)) = .ok b (2 * n + 1 + j) ∧ (0 < j → b.k = 35) := by
  intro j
  induction j with
  | zero =>
    intro _ g
    have h : (n == 256) = false := by rw [beq_eq_false_iff_ne]; omega
    refine ⟨node 28 (2 * n) (2 * n + 1) [2 * n] [], ?_, fun h => by omega⟩
    show (bif (n - 0) == 256 then _ else _) = _
    rw [Nat.sub_zero, h]
    exact exp_xe P.x.1 P.x.2 (P.shut 0 (by omega))
  | succ j ih =>
    intro hj g
    obtain ⟨b, h, _⟩ := ih (by omega) g
    have e : n - j = n - (j + 1) + 1 := by omega
    have hp : ((n - (j + 1)) == 256) = false := by rw [beq_eq_false_iff_ne]; omega
    have e2 : 2 * (n - j) = 2 * (n - (j + 1)) + 1 + 1 := by omega
    rw [e2, e] at h
    have hl := P.l (n - (j + 1)) (by omega)
    refine ⟨node 35 (2 * (n - (j + 1))) (2 * n + 1 + j + 1) [] [node 2 (2 * (n - (j + 1)) + 1) (2 * (n - (j + 1)) + 1) [] [], b], ?_, fun _ => rfl⟩
    · show (bif (n - (j + 1)) == 256 then _ else _) = _
      rw [hp]
      exact let_open hl.1.1 hl.1.2.1 hl.2.1 hl.2.2 h (P.e j (by omega)).2 (P.shut (j + 1) (by omega))
theorem lets_deep' {S : Src} {n : Nat} (P : Lets S n) (hn : 256 ≤ n) : ∀ j, j ≤ 256 → ∀ g, parts S (g + j + 1) .exp (256 - j) (2 * (256 - j)) = .deep 512 := by
  intro j
  induction j with
  | zero => intro _ g; rfl
  | succ j ih =>
    intro hj g
    have h := ih (by omega) g
    have e : 256 - j = 256 - (j + 1) + 1 := by omega
    have e2 : 2 * (256 - j) = 2 * (256 - (j + 1)) + 1 + 1 := by omega
    have hp : ((256 - (j + 1)) == 256) = false := by rw [beq_eq_false_iff_ne]; omega
    rw [e2, e] at h
    have hl := P.l (256 - (j + 1)) (by omega)
    show (bif (256 - (j + 1)) == 256 then _ else _) = _
    rw [hp]
    exact let_deep hl.1.1 hl.1.2.1 hl.2.1 hl.2.2 h
theorem lets_ok {S : Src} {n : Nat} (P : Lets S n) (h0 : 0 < n) (hn : n ≤ 255) (hl : S.ts.length = 3 * n + 2) : ∃ b, partS .exp S = .ok b (3 * n + 1) ∧ b.k = 35 := by
  have hf : fuel S = (2 * n + 257) + n + 2 := by unfold fuel; omega
  obtain ⟨b, h1, h2⟩ := lets_ok' P hn n (Nat.le_refl _) (2 * n + 257)
  refine ⟨b, ?_, h2 h0⟩
  unfold partS
  rw [hf]
  rw [Nat.sub_self] at h1
  rw [show 3 * n + 1 = 2 * n + 1 + n by omega]
  exact h1
theorem lets_deep {S : Src} {n : Nat} (P : Lets S n) (hn : 256 ≤ n) (hl : S.ts.length = 3 * n + 2) : partS .exp S = .deep 512 := by
  have hf : fuel S = (3 * n + 2) + 256 + 1 := by unfold fuel; omega
  unfold partS
  rw [hf]
  exact lets_deep' P hn 256 (Nat.le_refl _) (3 * n + 2)
end Go.Proofs.YtkjgkchdkeggoaaGreatDoor

namespace Go.Proofs.YtkjgkchdkeggoaaGreatDoor
open Go.RowKit
set_option maxRecDepth 20000
set_option linter.unusedVariables false
set_option linter.unusedSimpArgs false

theorem tx_of {S : Src} {i a e : Nat} {k : Int} (h : S.ts[i]? = some ⟨k, a, e⟩) : S.kd i = k ∧ S.pl i = (a : Int) ∧ (S.tx i).data.toList = (S.s.data.toList.drop a).take (e - a) := by
  simp [Src.kd, Src.pl, Src.tx, h, Lib.extract_data]
/-- So many times. -/
def repL (l : List UInt8) : Nat → List UInt8
  | 0 => []
  | n + 1 => l ++ repL l n
theorem repL_len (l : List UInt8) (n : Nat) : (repL l n).length = l.length * n := by
  induction n with
  | zero => rfl
  | succ n ih => simp [repL, ih, Nat.mul_succ]; omega
theorem repL_end (l : List UInt8) (n : Nat) : repL l n ++ l = l ++ repL l n := by
  induction n with
  | zero => simp [repL]
  | succ n ih => simp [repL, ih]
theorem repL_drop (l r : List UInt8) (n i : Nat) (h : i ≤ n) : (repL l n ++ r).drop (l.length * i) = repL l (n - i) ++ r := by
  induction i generalizing n with
  | zero => simp
  | succ i ih =>
    obtain ⟨q, rfl⟩ : ∃ q, n = q + 1 := ⟨n - 1, by omega⟩
    rw [Nat.mul_succ, Nat.add_comm, ← List.drop_drop, repL, List.append_assoc, List.drop_left, ih q (by omega), Nat.succ_sub_succ]
/-- One-byte marks. -/
def parT : Nat → Nat → List Tok
  | _, 0 => []
  | a, n + 1 => ⟨11, a, a + 1⟩ :: parT (a + 1) n
theorem parT_len (a n : Nat) : (parT a n).length = n := by
  induction n generalizing a with
  | zero => rfl
  | succ n ih => simp [parT, ih]
theorem parT_get (a n i : Nat) (h : i < n) : (parT a n)[i]? = some ⟨11, a + i, a + i + 1⟩ := by
  induction n generalizing a i with
  | zero => omega
  | succ n ih =>
    cases i with
    | zero => rfl
    | succ i =>
      rw [parT, List.getElem?_cons_succ, ih (a + 1) i (by omega)]
      congr 2 <;> omega
theorem parT_pick (a n : Nat) : pickT saysB (parT a n) = parT a n := by
  induction n generalizing a with
  | zero => rfl
  | succ n ih => simp only [parT, pickT]; rw [ih]; rfl
theorem scan_close (m : Nat) : ∀ f a, m ≤ f → scanF f a (repL [41] m) = parT a m := by
  induction m with
  | zero => intro f a _; cases f <;> rfl
  | succ m ih =>
    intro f a hf
    obtain ⟨q, rfl⟩ : ∃ q, f = q + 1 := ⟨f - 1, by omega⟩
    show scanF (q + 1) a (41 :: repL [41] m) = _
    simp only [scanF, List.isEmpty_cons, cond_false, tok41, List.drop_succ_cons, List.drop_zero]
    rw [ih q (a + 1) (by omega)]
    rfl
theorem close_rest (m : Nat) : passN (pureF restB) () (repL [41] m) = 0 := by cases m <;> rfl
theorem scan_par (m : Nat) : ∀ n f a, n + m + 1 ≤ f → scanF f a (repL [40] n ++ 120 :: repL [41] m) = parT a n ++ ⟨6, a + n, a + n + 1⟩ :: parT (a + n + 1) m := by
  intro n
  induction n with
  | zero =>
    intro f a hf
    obtain ⟨q, rfl⟩ : ∃ q, f = q + 1 := ⟨f - 1, by omega⟩
    show scanF (q + 1) a (120 :: repL [41] m) = _
    simp only [scanF, List.isEmpty_cons, cond_false, tok120 _ (close_rest m), List.drop_succ_cons, List.drop_zero]
    rw [scan_close m q (a + 1) (by omega)]
    rfl
  | succ n ih =>
    intro f a hf
    obtain ⟨q, rfl⟩ : ∃ q, f = q + 1 := ⟨f - 1, by omega⟩
    have ht : tokN (40 :: (repL [40] n ++ 120 :: repL [41] m)) = (11, 1) := by
      cases n with
      | zero => exact tok40 120 _ rfl
      | succ k => exact tok40 40 _ rfl
    show scanF (q + 1) a (40 :: (repL [40] n ++ 120 :: repL [41] m)) = _
    simp only [scanF, List.isEmpty_cons, cond_false, ht, List.drop_succ_cons, List.drop_zero]
    rw [ih q (a + 1) (by omega)]
    rw [show a + 1 + n = a + (n + 1) by omega]
    rfl
theorem par_words (s : ByteArray) (n : Nat) (hs : s.data.toList = repL [40] n ++ 120 :: repL [41] n) : scanT s = parT 0 n ++ ⟨6, n, n + 1⟩ :: parT (n + 1) n ++ [⟨0, s.size, s.size⟩] ∧ wordsT s = parT 0 n ++ ⟨6, n, n + 1⟩ :: parT (n + 1) n ++ [⟨0, s.size, s.size⟩] ∧ s.size = 2 * n + 1 := by
  have hz : s.size = 2 * n + 1 := by rw [← data_len, hs]; simp [repL_len]; omega
  have h := scan_par n n s.size 0 (by omega)
  rw [Nat.zero_add] at h
  have hsc : scanT s = parT 0 n ++ ⟨6, n, n + 1⟩ :: parT (n + 1) n ++ [⟨0, s.size, s.size⟩] := by
    unfold scanT restT
    rw [List.drop_zero, hs, h]
  refine ⟨hsc, ?_, hz⟩
  unfold wordsT
  rw [hsc, pickT_append, pickT_append]
  simp only [pickT, parT_pick]
  rfl
theorem par_of (S : Src) (n : Nat) (hs : S.s.data.toList = repL [40] n ++ 120 :: repL [41] n) (ht : S.ts = wordsT S.s) : Par S n ∧ S.ts.length = 2 * n + 2 := by
  obtain ⟨_, hw, hz⟩ := par_words S.s n hs
  rw [hw] at ht
  have hb : S.s.data.toList = repL [40] n ++ ([120] ++ repL [41] n) := hs
  have hc : ∀ i, i ≤ n → S.s.data.toList.drop (n + 1 + i) = repL [41] (n - i) := fun i hi => by
    have h1 : S.s.data.toList.drop n = [120] ++ repL [41] n := by
      rw [hb]
      have := repL_drop [40] ([120] ++ repL [41] n) n n (Nat.le_refl _)
      simpa [repL] using this
    rw [show n + 1 + i = n + (1 + i) by omega, ← List.drop_drop, h1, ← List.drop_drop]
    show (repL [41] n).drop i = _
    have := repL_drop [41] [] n i hi
    simpa using this
  have ho : ∀ i, i ≤ n → S.s.data.toList.drop i = repL [40] (n - i) ++ ([120] ++ repL [41] n) := fun i hi => by
    rw [hb]
    have := repL_drop [40] ([120] ++ repL [41] n) n i hi
    simpa using this
  have g : ∀ i, i < n → S.ts[i]? = some ⟨11, i, i + 1⟩ := fun i hi => by
    rw [ht, List.append_assoc, List.getElem?_append_left (by rw [parT_len]; exact hi), parT_get 0 n i hi]; simp
  have gx : S.ts[n]? = some ⟨6, n, n + 1⟩ := by
    rw [ht, List.append_assoc, List.getElem?_append_right (by rw [parT_len]; omega), parT_len, Nat.sub_self]; rfl
  have gc : ∀ i, i < n → S.ts[n + 1 + i]? = some ⟨11, n + 1 + i, n + 1 + i + 1⟩ := fun i hi => by
    rw [ht, List.append_assoc, List.getElem?_append_right (by rw [parT_len]; omega), parT_len, show n + 1 + i - n = i + 1 by omega, List.cons_append, List.getElem?_cons_succ, List.getElem?_append_left (by rw [parT_len]; exact hi), parT_get _ n i hi]
  have ge : S.ts[2 * n + 1]? = some ⟨0, 2 * n + 1, 2 * n + 1⟩ := by
    rw [ht, List.append_assoc, List.getElem?_append_right (by rw [parT_len]; omega), parT_len, show 2 * n + 1 - n = n + 1 by omega, List.cons_append, List.getElem?_cons_succ, List.getElem?_append_right (by rw [parT_len]; omega), parT_len, Nat.sub_self, hz]; rfl
  have one : ∀ a : Nat, a + 1 - a = 1 := fun a => by omega
  refine ⟨⟨fun i hi => ?_, ?_, fun i h1 h2 => ?_, ?_⟩, ?_⟩
  · obtain ⟨h1, h2, h3⟩ := tx_of (g i hi)
    refine ⟨h1, ?_, h2⟩
    rw [h3, ho i (by omega), one]
    obtain ⟨q, hq⟩ : ∃ q, n - i = q + 1 := ⟨n - i - 1, by omega⟩
    rw [hq]; rfl
  · obtain ⟨h1, h2, h3⟩ := tx_of gx
    refine ⟨h1, ?_⟩
    rw [h3, ho n (Nat.le_refl _), Nat.sub_self, one]; rfl
  · obtain ⟨q, rfl⟩ : ∃ q, i = n + 1 + q := ⟨i - n - 1, by omega⟩
    obtain ⟨h4, h5, h3⟩ := tx_of (gc q (by omega))
    refine ⟨h4, ?_⟩
    rw [h3, hc q (by omega), one]
    obtain ⟨r, hr⟩ : ∃ r, n - q = r + 1 := ⟨n - q - 1, by omega⟩
    rw [hr]; rfl
  · obtain ⟨h1, h2, h3⟩ := tx_of ge
    refine ⟨h1, ?_⟩
    rw [h3, Nat.sub_self]; rfl
  · rw [ht]; simp [parT_len]; omega
theorem par_first (s : ByteArray) (n : Nat) (hs : s.data.toList = repL [40] n ++ 120 :: repL [41] n) : (firstN s).2 = 0 := by
  obtain ⟨hsc, _, _⟩ := par_words s n hs
  unfold firstN
  rw [hsc, firstT_all]
  have hp : ∀ a n t, t ∈ parT a n → noBad t = true := by
    intro a n
    induction n generalizing a with
    | zero => intro t h; cases h
    | succ n ih =>
      intro t h
      rcases List.mem_cons.1 h with rfl | h
      · rfl
      · exact ih _ t h
  intro t h
  rcases List.mem_append.1 h with h | h
  · rcases List.mem_append.1 h with h | h
    · exact hp _ _ t h
    · rcases List.mem_cons.1 h with rfl | h
      · rfl
      · exact hp _ _ t h
  · obtain rfl := List.mem_singleton.1 h
    rfl
end Go.Proofs.YtkjgkchdkeggoaaGreatDoor

namespace Go.Proofs.YtkjgkchdkeggoaaGreatDoor
open Go.RowKit
set_option maxRecDepth 20000
set_option linter.unusedVariables false
set_option linter.unusedSimpArgs false

abbrev letB : List UInt8 := [108, 101, 116, 32, 105, 110, 32]
abbrev endB : List UInt8 := [32, 101, 110, 100]
def letS : Nat → Nat → List Tok
  | _, 0 => []
  | a, n + 1 => ⟨10, a, a + 3⟩ :: ⟨1, a + 3, a + 4⟩ :: ⟨10, a + 4, a + 6⟩ :: ⟨1, a + 6, a + 7⟩ :: letS (a + 7) n
def letW : Nat → Nat → List Tok
  | _, 0 => []
  | a, n + 1 => ⟨10, a, a + 3⟩ :: ⟨10, a + 4, a + 6⟩ :: letW (a + 7) n
def endS : Nat → Nat → List Tok
  | _, 0 => []
  | a, n + 1 => ⟨1, a, a + 1⟩ :: ⟨10, a + 1, a + 4⟩ :: endS (a + 4) n
def endW : Nat → Nat → List Tok
  | _, 0 => []
  | a, n + 1 => ⟨10, a + 1, a + 4⟩ :: endW (a + 4) n
theorem letW_len (a n : Nat) : (letW a n).length = 2 * n := by
  induction n generalizing a with
  | zero => rfl
  | succ n ih => simp [letW, ih]; omega
theorem endW_len (a n : Nat) : (endW a n).length = n := by
  induction n generalizing a with
  | zero => rfl
  | succ n ih => simp [endW, ih]
theorem letW_get (a n i : Nat) (h : i < n) : (letW a n)[2 * i]? = some ⟨10, a + 7 * i, a + 7 * i + 3⟩ ∧ (letW a n)[2 * i + 1]? = some ⟨10, a + 7 * i + 4, a + 7 * i + 6⟩ := by
  induction n generalizing a i with
  | zero => omega
  | succ n ih =>
    cases i with
    | zero => exact ⟨rfl, rfl⟩
    | succ i =>
      obtain ⟨h1, h2⟩ := ih (a + 7) i (by omega)
      rw [show 2 * (i + 1) = 2 * i + 1 + 1 by omega, letW]
      simp only [List.getElem?_cons_succ]
      rw [h1, h2]
      refine ⟨?_, ?_⟩ <;> (congr 2 <;> omega)
theorem endW_get (a n i : Nat) (h : i < n) : (endW a n)[i]? = some ⟨10, a + 4 * i + 1, a + 4 * i + 4⟩ := by
  induction n generalizing a i with
  | zero => omega
  | succ n ih =>
    cases i with
    | zero => rfl
    | succ i =>
      rw [endW, List.getElem?_cons_succ, ih (a + 4) i (by omega)]
      congr 2 <;> omega
theorem letS_pick (a n : Nat) : pickT saysB (letS a n) = letW a n := by
  induction n generalizing a with
  | zero => rfl
  | succ n ih => simp only [letS, letW, pickT]; rw [ih]; rfl
theorem endS_pick (a n : Nat) : pickT saysB (endS a n) = endW a n := by
  induction n generalizing a with
  | zero => rfl
  | succ n ih => simp only [endS, endW, pickT]; rw [ih]; rfl
theorem end_rest (m : Nat) : passN (pureF restB) () (repL endB m) = 0 := by cases m <;> rfl
theorem scan_one {f a n : Nat} {k : Int} {l : List UInt8} {c : UInt8} (ht : tokN (c :: l) = (k, n)) : scanF (f + 1) a (c :: l) = ⟨k, a, a + n⟩ :: scanF f (a + n) ((c :: l).drop n) := by
  simp only [scanF, List.isEmpty_cons, cond_false, ht]
theorem scan_ends (m : Nat) : ∀ f a, 4 * m ≤ f → scanF f a (repL endB m) = endS a m := by
  induction m with
  | zero => intro f a _; cases f <;> rfl
  | succ m ih =>
    intro f a hf
    obtain ⟨q, rfl⟩ : ∃ q, f = q + 1 + 1 := ⟨f - 2, by omega⟩
    show scanF (q + 1 + 1) a (32 :: 101 :: 110 :: 100 :: repL endB m) = _
    rw [scan_one (tok32 101 _ rfl)]
    show _ :: scanF (q + 1) (a + 1) (101 :: 110 :: 100 :: repL endB m) = _
    rw [scan_one (tokEnd _ (end_rest m))]
    show _ :: _ :: scanF q (a + 1 + 3) (repL endB m) = _
    rw [ih q (a + 1 + 3) (by omega)]
    rfl
theorem scan_lets (m : Nat) : ∀ n f a, 7 * n + 4 * m + 1 ≤ f → scanF f a (repL letB n ++ 120 :: repL endB m) = letS a n ++ ⟨6, a + 7 * n, a + 7 * n + 1⟩ :: endS (a + 7 * n + 1) m := by
  intro n
  induction n with
  | zero =>
    intro f a hf
    obtain ⟨q, rfl⟩ : ∃ q, f = q + 1 := ⟨f - 1, by omega⟩
    show scanF (q + 1) a (120 :: repL endB m) = _
    rw [scan_one (tok120 _ (end_rest m))]
    show _ :: scanF q (a + 1) (repL endB m) = _
    rw [scan_ends m q (a + 1) (by omega)]
    rfl
  | succ n ih =>
    intro f a hf
    obtain ⟨q, rfl⟩ : ∃ q, f = q + 1 + 1 + 1 + 1 := ⟨f - 4, by omega⟩
    have hb : ∃ c r, repL letB n ++ 120 :: repL endB m = c :: r ∧ blankB c = false := by
      cases n with
      | zero => exact ⟨120, _, rfl, rfl⟩
      | succ k => exact ⟨108, _, rfl, rfl⟩
    obtain ⟨c, r, hcr, hbc⟩ := hb
    show scanF (q + 1 + 1 + 1 + 1) a (108 :: 101 :: 116 :: 32 :: 105 :: 110 :: 32 :: (repL letB n ++ 120 :: repL endB m)) = _
    have h := ih q (a + 7) (by omega)
    rw [hcr] at h ⊢
    rw [scan_one (tokLet _)]
    show _ :: scanF (q + 1 + 1 + 1) (a + 3) (32 :: 105 :: 110 :: 32 :: c :: r) = _
    rw [scan_one (tok32 105 _ rfl)]
    show _ :: _ :: scanF (q + 1 + 1) (a + 3 + 1) (105 :: 110 :: 32 :: c :: r) = _
    rw [scan_one (tokIn _)]
    show _ :: _ :: _ :: scanF (q + 1) (a + 3 + 1 + 2) (32 :: c :: r) = _
    rw [scan_one (tok32 c _ hbc)]
    show _ :: _ :: _ :: _ :: scanF q (a + 7) (c :: r) = _
    rw [h, show a + 7 * (n + 1) = a + 7 + 7 * n by omega]
    rfl
theorem lets_words (s : ByteArray) (n : Nat) (hs : s.data.toList = repL letB n ++ 120 :: repL endB n) : scanT s = letS 0 n ++ ⟨6, 7 * n, 7 * n + 1⟩ :: endS (7 * n + 1) n ++ [⟨0, s.size, s.size⟩] ∧ wordsT s = letW 0 n ++ ⟨6, 7 * n, 7 * n + 1⟩ :: endW (7 * n + 1) n ++ [⟨0, s.size, s.size⟩] ∧ s.size = 11 * n + 1 := by
  have hz : s.size = 11 * n + 1 := by rw [← data_len, hs]; simp [repL_len]; omega
  have h := scan_lets n n s.size 0 (by omega)
  rw [Nat.zero_add] at h
  have hsc : scanT s = letS 0 n ++ ⟨6, 7 * n, 7 * n + 1⟩ :: endS (7 * n + 1) n ++ [⟨0, s.size, s.size⟩] := by
    unfold scanT restT
    rw [List.drop_zero, hs, h]
  refine ⟨hsc, ?_, hz⟩
  unfold wordsT
  rw [hsc, pickT_append, pickT_append]
  simp only [pickT, letS_pick, endS_pick]
  rfl
theorem lets_of (S : Src) (n : Nat) (hs : S.s.data.toList = repL letB n ++ 120 :: repL endB n) (ht : S.ts = wordsT S.s) : Lets S n ∧ S.ts.length = 3 * n + 2 := by
  obtain ⟨_, hw, hz⟩ := lets_words S.s n hs
  rw [hw] at ht
  have hb : S.s.data.toList = repL letB n ++ ([120] ++ repL endB n) := hs
  have ho : ∀ i, i ≤ n → S.s.data.toList.drop (7 * i) = repL letB (n - i) ++ ([120] ++ repL endB n) := fun i hi => by
    rw [hb]
    exact repL_drop letB ([120] ++ repL endB n) n i hi
  have hc : ∀ i, i ≤ n → S.s.data.toList.drop (7 * n + 1 + 4 * i) = repL endB (n - i) := fun i hi => by
    have h1 := ho n (Nat.le_refl _)
    rw [Nat.sub_self] at h1
    rw [show 7 * n + 1 + 4 * i = 7 * n + (1 + 4 * i) by omega, ← List.drop_drop, h1, ← List.drop_drop]
    show (repL endB n).drop (4 * i) = _
    have := repL_drop endB [] n i hi
    simpa using this
  have g1 : ∀ i, i < n → S.ts[2 * i]? = some ⟨10, 7 * i, 7 * i + 3⟩ := fun i hi => by
    rw [ht, List.append_assoc, List.getElem?_append_left (by rw [letW_len]; omega), (letW_get 0 n i hi).1]; simp
  have g2 : ∀ i, i < n → S.ts[2 * i + 1]? = some ⟨10, 7 * i + 4, 7 * i + 6⟩ := fun i hi => by
    rw [ht, List.append_assoc, List.getElem?_append_left (by rw [letW_len]; omega), (letW_get 0 n i hi).2]; simp
  have gx : S.ts[2 * n]? = some ⟨6, 7 * n, 7 * n + 1⟩ := by
    rw [ht, List.append_assoc, List.getElem?_append_right (by rw [letW_len]; omega), letW_len, Nat.sub_self]; rfl
  have gc : ∀ i, i < n → S.ts[2 * n + 1 + i]? = some ⟨10, 7 * n + 1 + 4 * i + 1, 7 * n + 1 + 4 * i + 4⟩ := fun i hi => by
    rw [ht, List.append_assoc, List.getElem?_append_right (by rw [letW_len]; omega), letW_len, show 2 * n + 1 + i - 2 * n = i + 1 by omega, List.cons_append, List.getElem?_cons_succ, List.getElem?_append_left (by rw [endW_len]; exact hi), endW_get _ n i hi]
  have ge : S.ts[3 * n + 1]? = some ⟨0, 11 * n + 1, 11 * n + 1⟩ := by
    rw [ht, List.append_assoc, List.getElem?_append_right (by rw [letW_len]; omega), letW_len, show 3 * n + 1 - 2 * n = n + 1 by omega, List.cons_append, List.getElem?_cons_succ, List.getElem?_append_right (by rw [endW_len]; omega), endW_len, Nat.sub_self, hz]; rfl
  refine ⟨⟨fun i hi => ⟨?_, ?_⟩, ?_, fun i hi => ?_, ?_⟩, ?_⟩
  · obtain ⟨h1, h2, h3⟩ := tx_of (g1 i hi)
    refine ⟨h1, ?_, h2⟩
    rw [h3, ho i (by omega), show 7 * i + 3 - 7 * i = 3 by omega]
    obtain ⟨q, hq⟩ : ∃ q, n - i = q + 1 := ⟨n - i - 1, by omega⟩
    rw [hq]; rfl
  · obtain ⟨h1, h2, h3⟩ := tx_of (g2 i hi)
    refine ⟨h1, ?_⟩
    rw [h3, ← List.drop_drop, ho i (by omega), show 7 * i + 6 - (7 * i + 4) = 2 by omega]
    obtain ⟨q, hq⟩ : ∃ q, n - i = q + 1 := ⟨n - i - 1, by omega⟩
    rw [hq]; rfl
  · obtain ⟨h1, h2, h3⟩ := tx_of gx
    refine ⟨h1, ?_⟩
    rw [h3, ho n (Nat.le_refl _), Nat.sub_self, show 7 * n + 1 - 7 * n = 1 by omega]; rfl
  · obtain ⟨h4, h5, h3⟩ := tx_of (gc i hi)
    refine ⟨h4, ?_⟩
    rw [h3, ← List.drop_drop, hc i (by omega), show 7 * n + 1 + 4 * i + 4 - (7 * n + 1 + 4 * i + 1) = 3 by omega]
    obtain ⟨r, hr⟩ : ∃ r, n - i = r + 1 := ⟨n - i - 1, by omega⟩
    rw [hr]; rfl
  · obtain ⟨h1, h2, h3⟩ := tx_of ge
    refine ⟨h1, ?_⟩
    rw [h3, Nat.sub_self]; rfl
  · rw [ht]; simp [letW_len, endW_len]; omega
theorem lets_first (s : ByteArray) (n : Nat) (hs : s.data.toList = repL letB n ++ 120 :: repL endB n) : (firstN s).2 = 0 := by
  obtain ⟨hsc, _, _⟩ := lets_words s n hs
  unfold firstN
  rw [hsc, firstT_all]
  have hp : ∀ a n t, t ∈ letS a n → noBad t = true := by
    intro a n
    induction n generalizing a with
    | zero => intro t h; cases h
    | succ n ih =>
      intro t h
      simp only [letS, List.mem_cons] at h
      rcases h with rfl | rfl | rfl | rfl | h
      · rfl
      · rfl
      · rfl
      · rfl
      · exact ih _ t h
  have hq : ∀ a n t, t ∈ endS a n → noBad t = true := by
    intro a n
    induction n generalizing a with
    | zero => intro t h; cases h
    | succ n ih =>
      intro t h
      simp only [endS, List.mem_cons] at h
      rcases h with rfl | rfl | h
      · rfl
      · rfl
      · exact ih _ t h
  intro t h
  rcases List.mem_append.1 h with h | h
  · rcases List.mem_append.1 h with h | h
    · exact hp _ _ t h
    · rcases List.mem_cons.1 h with rfl | h
      · rfl
      · exact hq _ _ t h
  · obtain rfl := List.mem_singleton.1 h
    rfl
end Go.Proofs.YtkjgkchdkeggoaaGreatDoor

namespace Go.Proofs.YtkjgkchdkeggoaaGreatDoor
open Go.RowKit
set_option maxRecDepth 20000
set_option linter.unusedVariables false
set_option linter.unusedSimpArgs false

set_option maxHeartbeats 1000000 in
theorem nested_any (n : Nat) (hn : n ≤ 300) (o x e : ByteArray) (ho : o.size ≤ 10) (hx : x.size ≤ 10) (he : e.size ≤ 10) (w : World) :
    Calls Tryz.prog 18 #[.int .i64 (n : Int), .string o, .string x, .string e] w fun r w' => ∃ t : ByteArray, r = .returned (.string t) ∧ t.data.toList = repL o.data.toList n ++ x.data.toList ++ repL e.data.toList n ∧ w = w' := by
  go_enter Tryz.func18, Tryz.ntmps18
  go_wp2_with fail
  go_loopg [2, 9] n (fun gk v2 v9 wr => ∃ (t : ByteArray) (i : Nat), v2 = .string t ∧ v9 = .int .i64 (i : Int) ∧ i + gk = n ∧ Hid (t.data.toList = repL o.data.toList i ++ x.data.toList ++ repL e.data.toList i) ∧ t.size ≤ 10 + i * 20 ∧ w = wr)
  case atStart => exact ⟨x, 0, rfl, rfl, by omega, Lib.hid (by simp [repL]), by omega, rfl⟩
  case round =>
    obtain ⟨t, i, rfl, rfl, hi, HT, hs, rfl⟩ := hrel
    cases gk with
    | zero =>
      have hlt : ¬ (i : Int) < (n : Int) := by omega
      have hin : i = n := by omega
      go_wp2_with fail
      go_ret
      exact ⟨t, rfl, by rw [HT.out, hin]; simp, rfl⟩
    | succ gk =>
      have hlt : (i : Int) < (n : Int) := by omega
      have h1 : o.size + t.size ≤ 10000 := by omega
      have h2 : (o ++ t).size + e.size ≤ 10000 := by simp; omega
      go_wp2_with fail
      go_roundg gk
      case measure => omega
      case rel => exact ⟨o ++ t ++ e, i + 1, rfl, by simp, by omega, Lib.hid (by
        have hr := repL_end e.data.toList i
        simp only [ByteArray.data_append, Array.toList_append, HT.out, repL]
        simp only [List.append_assoc]
        rw [hr]), by simp; omega, rfl⟩
end Go.Proofs.YtkjgkchdkeggoaaGreatDoor

namespace Go.Proofs.YtkjgkchdkeggoaaGreatDoor
open Go.RowKit
set_option maxRecDepth 20000
set_option linter.unusedVariables false
set_option linter.unusedSimpArgs false

theorem ok_of' {s : ByteArray} {w w' : World} {o : Src → Out Pb} {e : Ending} {Q : Pb → Prop} (h : Said3 s w o e w') (h0 : (firstN s).2 = 0) (he : ∀ S : Src, S.s = s → S.ts = wordsT s → ∃ x n, wholeO S (o S) = .ok x n ∧ Q x) :
    Below w.heap.size w w' ∧ ∃ y : Br, e = .returned (.tuple #[y.h.val, .int .i64 0, .int .i64 0]) ∧ Q y.pb := by
  obtain ⟨hb, ⟨h1, _⟩ | ⟨_, S, h1, h2, h3, ⟨x2, n2, v, h4, h5, y, h6, h7, h8, h9⟩ | ⟨n2, h4, _⟩ | ⟨n2, h4, _⟩⟩⟩ := h
  · exact absurd h0 h1
  · obtain ⟨x, n, h10, hq⟩ := he S h1 h2
    rw [h10] at h4
    injection h4 with h4 _
    exact ⟨hb, y, by rw [h5, h6], by rw [h9, ← h4]; exact hq⟩
  · obtain ⟨x, n, h10, hq⟩ := he S h1 h2
    rw [h10] at h4; cases h4
  · obtain ⟨x, n, h10, hq⟩ := he S h1 h2
    rw [h10] at h4; cases h4
theorem whole_ok {S : Src} {o : Out Pb} {x : Pb} {n : Nat} (h : o = .ok x n) (hk : S.kd n = 0) : wholeO S o = .ok x n := by
  rw [h]; unfold wholeO Out.bind; simp only [hk]; rfl
theorem whole_deep {S : Src} {o : Out Pb} {n : Nat} (h : o = .deep n) : wholeO S o = .deep n := by rw [h]; rfl
theorem pb_head {y : Br} {k : Int} (h : y.pb.k = k) : ∃ (m f t : Int) (np : Option Addr) (nn nc : Nat) (ns : List Int) (kp : Option Addr) (kn kc : Nat) (ks : List Br), y = .mk ⟨k, m, f, t, np, nn, nc, ns, kp, kn, kc⟩ ks := by
  obtain ⟨⟨yk, ym, yf, yt, ynp, ynn, ync, yns, ykp, ykn, ykc⟩, ks⟩ := y
  simp only [Br.pb, Pb.k] at h
  subst h
  exact ⟨_, _, _, _, _, _, _, _, _, _, _, rfl⟩
theorem mod_range (k : Int) (m : Int) (hm : 0 < m) (hm2 : m < 1000) : ∃ c : Nat, (c : Int) < m ∧ (IntKind.i64.wrap (k.tmod m + m)).tmod m = (c : Int) := by
  have h1 := Int.tmod_lt_of_pos k hm
  have h2 : -m < k.tmod m := by
    have := Int.tmod_lt_of_pos (-k) hm
    rw [Int.neg_tmod] at this
    omega
  have h3 : IntKind.i64.wrap (k.tmod m + m) = k.tmod m + m := IntWalk.i64_in _ (by omega)
  rw [h3]
  have h4 : 0 ≤ k.tmod m + m := by omega
  rw [Int.tmod_eq_emod_of_nonneg h4]
  have h5 := Int.emod_nonneg (k.tmod m + m) (show m ≠ 0 by omega)
  have h6 := Int.emod_lt_of_pos (k.tmod m + m) hm
  exact ⟨((k.tmod m + m) % m).toNat, by omega, by omega⟩
theorem par_pl (S : Src) (n : Nat) (hn : 256 ≤ n) (hs : S.s.data.toList = repL [40] n ++ 120 :: repL [41] n) (ht : S.ts = wordsT S.s) : S.pl 256 = 256 := by
  rcases Nat.lt_or_ge 256 n with h | h
  · exact ((par_of S n hs ht).1.o 256 h).2.2
  · have : n = 256 := by omega
    subst this
    obtain ⟨_, hw, hz⟩ := par_words S.s 256 hs
    rw [hw] at ht
    have gx : S.ts[256]? = some ⟨6, 256, 256 + 1⟩ := by
      rw [ht, List.append_assoc, List.getElem?_append_right (by rw [parT_len]; omega), parT_len, Nat.sub_self]; rfl
    exact (tx_of gx).2.1
theorem lets_pl (S : Src) (n : Nat) (hn : 256 ≤ n) (hs : S.s.data.toList = repL letB n ++ 120 :: repL endB n) (ht : S.ts = wordsT S.s) : S.pl 512 = 1792 := by
  rcases Nat.lt_or_ge 256 n with h | h
  · exact ((lets_of S n hs ht).1.l 256 h).1.2.2
  · have : n = 256 := by omega
    subst this
    obtain ⟨_, hw, hz⟩ := lets_words S.s 256 hs
    rw [hw] at ht
    have gx : S.ts[2 * 256]? = some ⟨6, 7 * 256, 7 * 256 + 1⟩ := by
      rw [ht, List.append_assoc, List.getElem?_append_right (by rw [letW_len]; omega), letW_len, Nat.sub_self]; rfl
    exact (tx_of gx).2.1
set_option maxHeartbeats 600000 in
theorem deep_0_a (kind n : Int) (N : Nat) (hc : (IntKind.i64.wrap (kind.tmod 4 + 4)).tmod 4 = 0) (hN : IntKind.i64.wrap (250 + (IntKind.i64.wrap (n.tmod 11 + 11)).tmod 11) = (N : Int)) (h1 : 250 ≤ N) (h2 : N ≤ 255) (w : World) (hk : Kw w) : Calls Tryz.prog 5 #[.int .i64 kind, .int .i64 n] w fun e w' => e = .returned (.bool true) ∧ Below w.heap.size w w' := by
  have hb3 : Below w.heap.size w (((w.alloc (.cells #[.string ⟨#[40]⟩, .string ⟨#[40]⟩, .string ⟨#[40]⟩, .string ⟨#[108, 101, 116, 32, 105, 110, 32]⟩] 9)).alloc (.cells #[.string ⟨#[41]⟩, .string ⟨#[41]⟩, .string ⟨#[41]⟩, .string ⟨#[32, 101, 110, 100]⟩] 9)).alloc (.cells #[.int .i64 1, .int .i64 2, .int .i64 3, .int .i64 1] 3)) := (((Below.refl w.heap.size w).alloc (Nat.le_refl _) _).alloc (by simp) _).alloc (by simp; omega) _
  have HB3 := Lib.hid hb3
  have HK3 := Lib.hid (hk.step hb3)
  have HNS := Lib.hid (nested_any N (by omega) ⟨#[40]⟩ ⟨#[120]⟩ ⟨#[41]⟩ (by decide) (by decide) (by decide) ((w.alloc (.cells #[.string ⟨#[40]⟩, .string ⟨#[40]⟩, .string ⟨#[40]⟩, .string ⟨#[108, 101, 116, 32, 105, 110, 32]⟩] 9)).alloc (.cells #[.string ⟨#[41]⟩, .string ⟨#[41]⟩, .string ⟨#[41]⟩, .string ⟨#[32, 101, 110, 100]⟩] 9)))
  simp only [IntWalk.i64_left] at hc hN
  have hlt : (N : Int) < 256 := by omega
  have HR := Lib.hid (And.intro h1 h2)
  clear hb3 hk h1 h2
  go_enter Tryz.func5, Tryz.ntmps5
  go_wp2_with fail
  refine HNS.out.mono ?_
  rintro e wq ⟨t, rfl, ht, rfl⟩
  have hts : t.data.toList = repL [40] N ++ 120 :: repL [41] N := by simpa using ht
  have htz : t.size ≤ 1000000 := by
    have := HR.out
    rw [← data_len, hts]; simp [repL_len]; omega
  have H1 := Lib.hid (read_exp t htz (((w.alloc (.cells #[.string ⟨#[40]⟩, .string ⟨#[40]⟩, .string ⟨#[40]⟩, .string ⟨#[108, 101, 116, 32, 105, 110, 32]⟩] 9)).alloc (.cells #[.string ⟨#[41]⟩, .string ⟨#[41]⟩, .string ⟨#[41]⟩, .string ⟨#[32, 101, 110, 100]⟩] 9)).alloc (.cells #[.int .i64 1, .int .i64 2, .int .i64 3, .int .i64 1] 3)) HK3.out)
  have HT := Lib.hid hts
  clear ht hts htz HNS
  go_wp2_with fail
  refine H1.out.mono ?_
  intro e w4 hsd
  obtain ⟨hb, y, rfl, hq⟩ := ok_of' (Q := fun x => x.k = 28) hsd (par_first t N HT.out) (fun S g1 g2 => by
    obtain ⟨P, hl⟩ := par_of S N (by rw [g1]; exact HT.out) (by rw [g1]; exact g2)
    have hn := HR.out
    exact ⟨_, _, whole_ok ((par_ok P (by omega) hl).1) P.e.1, rfl⟩)
  obtain ⟨m1, f1, t1, np1, nn1, nc1, ns1, kp1, kn1, kc1, ks1, rfl⟩ := pb_head hq
  have bx := Lib.cell_of_heap (heap_alloc_new w4 (.cells #[.int .i64 28, .int .i64 m1, .int .i64 f1, .int .i64 t1, .slice np1 nn1 nc1, .slice kp1 kn1 kc1] 26)) 0
  simp only [List.getElem?_toArray, List.getElem?_cons_zero] at bx
  have hb4 := HB3.out.trans (hb.mono HB3.out.size)
  have hbZ : Below w4.heap.size w4 (w4.alloc (.cells #[.int .i64 28, .int .i64 m1, .int .i64 f1, .int .i64 t1, .slice np1 nn1 nc1, .slice kp1 kn1 kc1] 26)) := (Below.refl _ _).alloc (Nat.le_refl _) _
  have HB5 := Lib.hid (hb4.trans (hbZ.mono hb4.size))
  have HL := Lib.hid (alive_any _ ((HK3.out.step hb).step hbZ))
  clear hsd hb hq hb4 hbZ H1 HK3 HB3 HT HR
  simp only [Hd.val, Br.h]
  go_wp2_with (first | (go_at_call 9; refine (no_any _ _).mono ?_; rintro e w' ⟨rfl, rfl⟩) | (go_at_call 7; refine HL.out.mono ?_; rintro e w6 ⟨rfl, hb6⟩; have HB6 := Lib.hid (HB5.out.trans (hb6.mono HB5.out.size)); clear hb6))
  go_ret
  exact ⟨rfl, HB6.out⟩
set_option maxHeartbeats 600000 in
theorem deep_0_b (kind n : Int) (N : Nat) (hc : (IntKind.i64.wrap (kind.tmod 4 + 4)).tmod 4 = 0) (hN : IntKind.i64.wrap (250 + (IntKind.i64.wrap (n.tmod 11 + 11)).tmod 11) = (N : Int)) (h1 : 256 ≤ N) (h2 : N ≤ 260) (w : World) (hk : Kw w) : Calls Tryz.prog 5 #[.int .i64 kind, .int .i64 n] w fun e w' => e = .returned (.bool true) ∧ Below w.heap.size w w' := by
  have hb3 : Below w.heap.size w (((w.alloc (.cells #[.string ⟨#[40]⟩, .string ⟨#[40]⟩, .string ⟨#[40]⟩, .string ⟨#[108, 101, 116, 32, 105, 110, 32]⟩] 9)).alloc (.cells #[.string ⟨#[41]⟩, .string ⟨#[41]⟩, .string ⟨#[41]⟩, .string ⟨#[32, 101, 110, 100]⟩] 9)).alloc (.cells #[.int .i64 1, .int .i64 2, .int .i64 3, .int .i64 1] 3)) := (((Below.refl w.heap.size w).alloc (Nat.le_refl _) _).alloc (by simp) _).alloc (by simp; omega) _
  have HB3 := Lib.hid hb3
  have HK3 := Lib.hid (hk.step hb3)
  have HNS := Lib.hid (nested_any N (by omega) ⟨#[40]⟩ ⟨#[120]⟩ ⟨#[41]⟩ (by decide) (by decide) (by decide) ((w.alloc (.cells #[.string ⟨#[40]⟩, .string ⟨#[40]⟩, .string ⟨#[40]⟩, .string ⟨#[108, 101, 116, 32, 105, 110, 32]⟩] 9)).alloc (.cells #[.string ⟨#[41]⟩, .string ⟨#[41]⟩, .string ⟨#[41]⟩, .string ⟨#[32, 101, 110, 100]⟩] 9)))
  simp only [IntWalk.i64_left] at hc hN
  have hlt : ¬ (N : Int) < 256 := by omega
  have HR := Lib.hid (And.intro h1 h2)
  clear hb3 hk h1 h2
  go_enter Tryz.func5, Tryz.ntmps5
  go_wp2_with fail
  refine HNS.out.mono ?_
  rintro e wq ⟨t, rfl, ht, rfl⟩
  have hts : t.data.toList = repL [40] N ++ 120 :: repL [41] N := by simpa using ht
  have htz : t.size ≤ 1000000 := by
    have := HR.out
    rw [← data_len, hts]; simp [repL_len]; omega
  have H1 := Lib.hid (read_exp t htz (((w.alloc (.cells #[.string ⟨#[40]⟩, .string ⟨#[40]⟩, .string ⟨#[40]⟩, .string ⟨#[108, 101, 116, 32, 105, 110, 32]⟩] 9)).alloc (.cells #[.string ⟨#[41]⟩, .string ⟨#[41]⟩, .string ⟨#[41]⟩, .string ⟨#[32, 101, 110, 100]⟩] 9)).alloc (.cells #[.int .i64 1, .int .i64 2, .int .i64 3, .int .i64 1] 3)) HK3.out)
  have HT := Lib.hid hts
  clear ht hts htz HNS
  go_wp2_with fail
  refine H1.out.mono ?_
  intro e w4 hsd
  obtain ⟨hb, rfl⟩ := deep_of (p := 256) hsd (par_first t N HT.out) (fun S g1 g2 => by
    obtain ⟨P, hl⟩ := par_of S N (by rw [g1]; exact HT.out) (by rw [g1]; exact g2)
    have hn := HR.out
    refine ⟨whole_deep ((par_deep P (by omega) hl).1), ?_⟩
    exact par_pl S N (by omega) (by rw [g1]; exact HT.out) (by rw [g1]; exact g2))
  have hb4 := HB3.out.trans (hb.mono HB3.out.size)
  have hbZ : Below w4.heap.size w4 (w4.alloc boxZ) := (Below.refl _ _).alloc (Nat.le_refl _) _
  have HB5 := Lib.hid (hb4.trans (hbZ.mono hb4.size))
  have HL := Lib.hid (alive_any _ ((HK3.out.step hb).step hbZ))
  clear hsd hb hb4 hbZ H1 HK3 HB3 HT HR
  go_wp2_with (first | (go_at_call 9; refine (no_any _ _).mono ?_; rintro e w' ⟨rfl, rfl⟩) | (go_at_call 7; refine HL.out.mono ?_; rintro e w6 ⟨rfl, hb6⟩; have HB6 := Lib.hid (HB5.out.trans (hb6.mono HB5.out.size)); clear hb6))
  go_ret
  exact ⟨rfl, HB6.out⟩
set_option maxHeartbeats 600000 in
theorem deep_1_a (kind n : Int) (N : Nat) (hc : (IntKind.i64.wrap (kind.tmod 4 + 4)).tmod 4 = 1) (hN : IntKind.i64.wrap (250 + (IntKind.i64.wrap (n.tmod 11 + 11)).tmod 11) = (N : Int)) (h1 : 250 ≤ N) (h2 : N ≤ 255) (w : World) (hk : Kw w) : Calls Tryz.prog 5 #[.int .i64 kind, .int .i64 n] w fun e w' => e = .returned (.bool true) ∧ Below w.heap.size w w' := by
  have hb3 : Below w.heap.size w (((w.alloc (.cells #[.string ⟨#[40]⟩, .string ⟨#[40]⟩, .string ⟨#[40]⟩, .string ⟨#[108, 101, 116, 32, 105, 110, 32]⟩] 9)).alloc (.cells #[.string ⟨#[41]⟩, .string ⟨#[41]⟩, .string ⟨#[41]⟩, .string ⟨#[32, 101, 110, 100]⟩] 9)).alloc (.cells #[.int .i64 1, .int .i64 2, .int .i64 3, .int .i64 1] 3)) := (((Below.refl w.heap.size w).alloc (Nat.le_refl _) _).alloc (by simp) _).alloc (by simp; omega) _
  have HB3 := Lib.hid hb3
  have HK3 := Lib.hid (hk.step hb3)
  have HNS := Lib.hid (nested_any N (by omega) ⟨#[40]⟩ ⟨#[120]⟩ ⟨#[41]⟩ (by decide) (by decide) (by decide) ((w.alloc (.cells #[.string ⟨#[40]⟩, .string ⟨#[40]⟩, .string ⟨#[40]⟩, .string ⟨#[108, 101, 116, 32, 105, 110, 32]⟩] 9)).alloc (.cells #[.string ⟨#[41]⟩, .string ⟨#[41]⟩, .string ⟨#[41]⟩, .string ⟨#[32, 101, 110, 100]⟩] 9)))
  simp only [IntWalk.i64_left] at hc hN
  have hlt : (N : Int) < 256 := by omega
  have HR := Lib.hid (And.intro h1 h2)
  clear hb3 hk h1 h2
  go_enter Tryz.func5, Tryz.ntmps5
  go_wp2_with fail
  refine HNS.out.mono ?_
  rintro e wq ⟨t, rfl, ht, rfl⟩
  have hts : t.data.toList = repL [40] N ++ 120 :: repL [41] N := by simpa using ht
  have htz : t.size ≤ 1000000 := by
    have := HR.out
    rw [← data_len, hts]; simp [repL_len]; omega
  have H1 := Lib.hid (read_pat t htz (((w.alloc (.cells #[.string ⟨#[40]⟩, .string ⟨#[40]⟩, .string ⟨#[40]⟩, .string ⟨#[108, 101, 116, 32, 105, 110, 32]⟩] 9)).alloc (.cells #[.string ⟨#[41]⟩, .string ⟨#[41]⟩, .string ⟨#[41]⟩, .string ⟨#[32, 101, 110, 100]⟩] 9)).alloc (.cells #[.int .i64 1, .int .i64 2, .int .i64 3, .int .i64 1] 3)) HK3.out)
  have HT := Lib.hid hts
  clear ht hts htz HNS
  go_wp2_with fail
  refine H1.out.mono ?_
  intro e w4 hsd
  obtain ⟨hb, y, rfl, hq⟩ := ok_of' (Q := fun x => x.k = 39) hsd (par_first t N HT.out) (fun S g1 g2 => by
    obtain ⟨P, hl⟩ := par_of S N (by rw [g1]; exact HT.out) (by rw [g1]; exact g2)
    have hn := HR.out
    exact ⟨_, _, whole_ok ((par_ok P (by omega) hl).2.1) P.e.1, rfl⟩)
  obtain ⟨m1, f1, t1, np1, nn1, nc1, ns1, kp1, kn1, kc1, ks1, rfl⟩ := pb_head hq
  have bx := Lib.cell_of_heap (heap_alloc_new w4 (.cells #[.int .i64 39, .int .i64 m1, .int .i64 f1, .int .i64 t1, .slice np1 nn1 nc1, .slice kp1 kn1 kc1] 26)) 0
  simp only [List.getElem?_toArray, List.getElem?_cons_zero] at bx
  have hb4 := HB3.out.trans (hb.mono HB3.out.size)
  have hbZ : Below w4.heap.size w4 (w4.alloc (.cells #[.int .i64 39, .int .i64 m1, .int .i64 f1, .int .i64 t1, .slice np1 nn1 nc1, .slice kp1 kn1 kc1] 26)) := (Below.refl _ _).alloc (Nat.le_refl _) _
  have HB5 := Lib.hid (hb4.trans (hbZ.mono hb4.size))
  have HL := Lib.hid (alive_any _ ((HK3.out.step hb).step hbZ))
  clear hsd hb hq hb4 hbZ H1 HK3 HB3 HT HR
  simp only [Hd.val, Br.h]
  go_wp2_with (first | (go_at_call 9; refine (no_any _ _).mono ?_; rintro e w' ⟨rfl, rfl⟩) | (go_at_call 7; refine HL.out.mono ?_; rintro e w6 ⟨rfl, hb6⟩; have HB6 := Lib.hid (HB5.out.trans (hb6.mono HB5.out.size)); clear hb6))
  go_ret
  exact ⟨rfl, HB6.out⟩
set_option maxHeartbeats 600000 in
theorem deep_1_b (kind n : Int) (N : Nat) (hc : (IntKind.i64.wrap (kind.tmod 4 + 4)).tmod 4 = 1) (hN : IntKind.i64.wrap (250 + (IntKind.i64.wrap (n.tmod 11 + 11)).tmod 11) = (N : Int)) (h1 : 256 ≤ N) (h2 : N ≤ 260) (w : World) (hk : Kw w) : Calls Tryz.prog 5 #[.int .i64 kind, .int .i64 n] w fun e w' => e = .returned (.bool true) ∧ Below w.heap.size w w' := by
  have hb3 : Below w.heap.size w (((w.alloc (.cells #[.string ⟨#[40]⟩, .string ⟨#[40]⟩, .string ⟨#[40]⟩, .string ⟨#[108, 101, 116, 32, 105, 110, 32]⟩] 9)).alloc (.cells #[.string ⟨#[41]⟩, .string ⟨#[41]⟩, .string ⟨#[41]⟩, .string ⟨#[32, 101, 110, 100]⟩] 9)).alloc (.cells #[.int .i64 1, .int .i64 2, .int .i64 3, .int .i64 1] 3)) := (((Below.refl w.heap.size w).alloc (Nat.le_refl _) _).alloc (by simp) _).alloc (by simp; omega) _
  have HB3 := Lib.hid hb3
  have HK3 := Lib.hid (hk.step hb3)
  have HNS := Lib.hid (nested_any N (by omega) ⟨#[40]⟩ ⟨#[120]⟩ ⟨#[41]⟩ (by decide) (by decide) (by decide) ((w.alloc (.cells #[.string ⟨#[40]⟩, .string ⟨#[40]⟩, .string ⟨#[40]⟩, .string ⟨#[108, 101, 116, 32, 105, 110, 32]⟩] 9)).alloc (.cells #[.string ⟨#[41]⟩, .string ⟨#[41]⟩, .string ⟨#[41]⟩, .string ⟨#[32, 101, 110, 100]⟩] 9)))
  simp only [IntWalk.i64_left] at hc hN
  have hlt : ¬ (N : Int) < 256 := by omega
  have HR := Lib.hid (And.intro h1 h2)
  clear hb3 hk h1 h2
  go_enter Tryz.func5, Tryz.ntmps5
  go_wp2_with fail
  refine HNS.out.mono ?_
  rintro e wq ⟨t, rfl, ht, rfl⟩
  have hts : t.data.toList = repL [40] N ++ 120 :: repL [41] N := by simpa using ht
  have htz : t.size ≤ 1000000 := by
    have := HR.out
    rw [← data_len, hts]; simp [repL_len]; omega
  have H1 := Lib.hid (read_pat t htz (((w.alloc (.cells #[.string ⟨#[40]⟩, .string ⟨#[40]⟩, .string ⟨#[40]⟩, .string ⟨#[108, 101, 116, 32, 105, 110, 32]⟩] 9)).alloc (.cells #[.string ⟨#[41]⟩, .string ⟨#[41]⟩, .string ⟨#[41]⟩, .string ⟨#[32, 101, 110, 100]⟩] 9)).alloc (.cells #[.int .i64 1, .int .i64 2, .int .i64 3, .int .i64 1] 3)) HK3.out)
  have HT := Lib.hid hts
  clear ht hts htz HNS
  go_wp2_with fail
  refine H1.out.mono ?_
  intro e w4 hsd
  obtain ⟨hb, rfl⟩ := deep_of (p := 256) hsd (par_first t N HT.out) (fun S g1 g2 => by
    obtain ⟨P, hl⟩ := par_of S N (by rw [g1]; exact HT.out) (by rw [g1]; exact g2)
    have hn := HR.out
    refine ⟨whole_deep ((par_deep P (by omega) hl).2.1), ?_⟩
    exact par_pl S N (by omega) (by rw [g1]; exact HT.out) (by rw [g1]; exact g2))
  have hb4 := HB3.out.trans (hb.mono HB3.out.size)
  have hbZ : Below w4.heap.size w4 (w4.alloc boxZ) := (Below.refl _ _).alloc (Nat.le_refl _) _
  have HB5 := Lib.hid (hb4.trans (hbZ.mono hb4.size))
  have HL := Lib.hid (alive_any _ ((HK3.out.step hb).step hbZ))
  clear hsd hb hb4 hbZ H1 HK3 HB3 HT HR
  go_wp2_with (first | (go_at_call 9; refine (no_any _ _).mono ?_; rintro e w' ⟨rfl, rfl⟩) | (go_at_call 7; refine HL.out.mono ?_; rintro e w6 ⟨rfl, hb6⟩; have HB6 := Lib.hid (HB5.out.trans (hb6.mono HB5.out.size)); clear hb6))
  go_ret
  exact ⟨rfl, HB6.out⟩
set_option maxHeartbeats 600000 in
theorem deep_2_a (kind n : Int) (N : Nat) (hc : (IntKind.i64.wrap (kind.tmod 4 + 4)).tmod 4 = 2) (hN : IntKind.i64.wrap (250 + (IntKind.i64.wrap (n.tmod 11 + 11)).tmod 11) = (N : Int)) (h1 : 250 ≤ N) (h2 : N ≤ 255) (w : World) (hk : Kw w) : Calls Tryz.prog 5 #[.int .i64 kind, .int .i64 n] w fun e w' => e = .returned (.bool true) ∧ Below w.heap.size w w' := by
  have hb3 : Below w.heap.size w (((w.alloc (.cells #[.string ⟨#[40]⟩, .string ⟨#[40]⟩, .string ⟨#[40]⟩, .string ⟨#[108, 101, 116, 32, 105, 110, 32]⟩] 9)).alloc (.cells #[.string ⟨#[41]⟩, .string ⟨#[41]⟩, .string ⟨#[41]⟩, .string ⟨#[32, 101, 110, 100]⟩] 9)).alloc (.cells #[.int .i64 1, .int .i64 2, .int .i64 3, .int .i64 1] 3)) := (((Below.refl w.heap.size w).alloc (Nat.le_refl _) _).alloc (by simp) _).alloc (by simp; omega) _
  have HB3 := Lib.hid hb3
  have HK3 := Lib.hid (hk.step hb3)
  have HNS := Lib.hid (nested_any N (by omega) ⟨#[40]⟩ ⟨#[120]⟩ ⟨#[41]⟩ (by decide) (by decide) (by decide) ((w.alloc (.cells #[.string ⟨#[40]⟩, .string ⟨#[40]⟩, .string ⟨#[40]⟩, .string ⟨#[108, 101, 116, 32, 105, 110, 32]⟩] 9)).alloc (.cells #[.string ⟨#[41]⟩, .string ⟨#[41]⟩, .string ⟨#[41]⟩, .string ⟨#[32, 101, 110, 100]⟩] 9)))
  simp only [IntWalk.i64_left] at hc hN
  have hlt : (N : Int) < 256 := by omega
  have HR := Lib.hid (And.intro h1 h2)
  clear hb3 hk h1 h2
  go_enter Tryz.func5, Tryz.ntmps5
  go_wp2_with fail
  refine HNS.out.mono ?_
  rintro e wq ⟨t, rfl, ht, rfl⟩
  have hts : t.data.toList = repL [40] N ++ 120 :: repL [41] N := by simpa using ht
  have htz : t.size ≤ 1000000 := by
    have := HR.out
    rw [← data_len, hts]; simp [repL_len]; omega
  have H1 := Lib.hid (read_ty t htz (((w.alloc (.cells #[.string ⟨#[40]⟩, .string ⟨#[40]⟩, .string ⟨#[40]⟩, .string ⟨#[108, 101, 116, 32, 105, 110, 32]⟩] 9)).alloc (.cells #[.string ⟨#[41]⟩, .string ⟨#[41]⟩, .string ⟨#[41]⟩, .string ⟨#[32, 101, 110, 100]⟩] 9)).alloc (.cells #[.int .i64 1, .int .i64 2, .int .i64 3, .int .i64 1] 3)) HK3.out)
  have HT := Lib.hid hts
  clear ht hts htz HNS
  go_wp2_with fail
  refine H1.out.mono ?_
  intro e w4 hsd
  obtain ⟨hb, y, rfl, hq⟩ := ok_of' (Q := fun x => x.k = 42) hsd (par_first t N HT.out) (fun S g1 g2 => by
    obtain ⟨P, hl⟩ := par_of S N (by rw [g1]; exact HT.out) (by rw [g1]; exact g2)
    have hn := HR.out
    exact ⟨_, _, whole_ok ((par_ok P (by omega) hl).2.2) P.e.1, rfl⟩)
  obtain ⟨m1, f1, t1, np1, nn1, nc1, ns1, kp1, kn1, kc1, ks1, rfl⟩ := pb_head hq
  have bx := Lib.cell_of_heap (heap_alloc_new w4 (.cells #[.int .i64 42, .int .i64 m1, .int .i64 f1, .int .i64 t1, .slice np1 nn1 nc1, .slice kp1 kn1 kc1] 26)) 0
  simp only [List.getElem?_toArray, List.getElem?_cons_zero] at bx
  have hb4 := HB3.out.trans (hb.mono HB3.out.size)
  have hbZ : Below w4.heap.size w4 (w4.alloc (.cells #[.int .i64 42, .int .i64 m1, .int .i64 f1, .int .i64 t1, .slice np1 nn1 nc1, .slice kp1 kn1 kc1] 26)) := (Below.refl _ _).alloc (Nat.le_refl _) _
  have HB5 := Lib.hid (hb4.trans (hbZ.mono hb4.size))
  have HL := Lib.hid (alive_any _ ((HK3.out.step hb).step hbZ))
  clear hsd hb hq hb4 hbZ H1 HK3 HB3 HT HR
  simp only [Hd.val, Br.h]
  go_wp2_with (first | (go_at_call 9; refine (no_any _ _).mono ?_; rintro e w' ⟨rfl, rfl⟩) | (go_at_call 7; refine HL.out.mono ?_; rintro e w6 ⟨rfl, hb6⟩; have HB6 := Lib.hid (HB5.out.trans (hb6.mono HB5.out.size)); clear hb6))
  go_ret
  exact ⟨rfl, HB6.out⟩
set_option maxHeartbeats 600000 in
theorem deep_2_b (kind n : Int) (N : Nat) (hc : (IntKind.i64.wrap (kind.tmod 4 + 4)).tmod 4 = 2) (hN : IntKind.i64.wrap (250 + (IntKind.i64.wrap (n.tmod 11 + 11)).tmod 11) = (N : Int)) (h1 : 256 ≤ N) (h2 : N ≤ 260) (w : World) (hk : Kw w) : Calls Tryz.prog 5 #[.int .i64 kind, .int .i64 n] w fun e w' => e = .returned (.bool true) ∧ Below w.heap.size w w' := by
  have hb3 : Below w.heap.size w (((w.alloc (.cells #[.string ⟨#[40]⟩, .string ⟨#[40]⟩, .string ⟨#[40]⟩, .string ⟨#[108, 101, 116, 32, 105, 110, 32]⟩] 9)).alloc (.cells #[.string ⟨#[41]⟩, .string ⟨#[41]⟩, .string ⟨#[41]⟩, .string ⟨#[32, 101, 110, 100]⟩] 9)).alloc (.cells #[.int .i64 1, .int .i64 2, .int .i64 3, .int .i64 1] 3)) := (((Below.refl w.heap.size w).alloc (Nat.le_refl _) _).alloc (by simp) _).alloc (by simp; omega) _
  have HB3 := Lib.hid hb3
  have HK3 := Lib.hid (hk.step hb3)
  have HNS := Lib.hid (nested_any N (by omega) ⟨#[40]⟩ ⟨#[120]⟩ ⟨#[41]⟩ (by decide) (by decide) (by decide) ((w.alloc (.cells #[.string ⟨#[40]⟩, .string ⟨#[40]⟩, .string ⟨#[40]⟩, .string ⟨#[108, 101, 116, 32, 105, 110, 32]⟩] 9)).alloc (.cells #[.string ⟨#[41]⟩, .string ⟨#[41]⟩, .string ⟨#[41]⟩, .string ⟨#[32, 101, 110, 100]⟩] 9)))
  simp only [IntWalk.i64_left] at hc hN
  have hlt : ¬ (N : Int) < 256 := by omega
  have HR := Lib.hid (And.intro h1 h2)
  clear hb3 hk h1 h2
  go_enter Tryz.func5, Tryz.ntmps5
  go_wp2_with fail
  refine HNS.out.mono ?_
  rintro e wq ⟨t, rfl, ht, rfl⟩
  have hts : t.data.toList = repL [40] N ++ 120 :: repL [41] N := by simpa using ht
  have htz : t.size ≤ 1000000 := by
    have := HR.out
    rw [← data_len, hts]; simp [repL_len]; omega
  have H1 := Lib.hid (read_ty t htz (((w.alloc (.cells #[.string ⟨#[40]⟩, .string ⟨#[40]⟩, .string ⟨#[40]⟩, .string ⟨#[108, 101, 116, 32, 105, 110, 32]⟩] 9)).alloc (.cells #[.string ⟨#[41]⟩, .string ⟨#[41]⟩, .string ⟨#[41]⟩, .string ⟨#[32, 101, 110, 100]⟩] 9)).alloc (.cells #[.int .i64 1, .int .i64 2, .int .i64 3, .int .i64 1] 3)) HK3.out)
  have HT := Lib.hid hts
  clear ht hts htz HNS
  go_wp2_with fail
  refine H1.out.mono ?_
  intro e w4 hsd
  obtain ⟨hb, rfl⟩ := deep_of (p := 256) hsd (par_first t N HT.out) (fun S g1 g2 => by
    obtain ⟨P, hl⟩ := par_of S N (by rw [g1]; exact HT.out) (by rw [g1]; exact g2)
    have hn := HR.out
    refine ⟨whole_deep ((par_deep P (by omega) hl).2.2), ?_⟩
    exact par_pl S N (by omega) (by rw [g1]; exact HT.out) (by rw [g1]; exact g2))
  have hb4 := HB3.out.trans (hb.mono HB3.out.size)
  have hbZ : Below w4.heap.size w4 (w4.alloc boxZ) := (Below.refl _ _).alloc (Nat.le_refl _) _
  have HB5 := Lib.hid (hb4.trans (hbZ.mono hb4.size))
  have HL := Lib.hid (alive_any _ ((HK3.out.step hb).step hbZ))
  clear hsd hb hb4 hbZ H1 HK3 HB3 HT HR
  go_wp2_with (first | (go_at_call 9; refine (no_any _ _).mono ?_; rintro e w' ⟨rfl, rfl⟩) | (go_at_call 7; refine HL.out.mono ?_; rintro e w6 ⟨rfl, hb6⟩; have HB6 := Lib.hid (HB5.out.trans (hb6.mono HB5.out.size)); clear hb6))
  go_ret
  exact ⟨rfl, HB6.out⟩
set_option maxHeartbeats 600000 in
theorem deep_3_a (kind n : Int) (N : Nat) (hc : (IntKind.i64.wrap (kind.tmod 4 + 4)).tmod 4 = 3) (hN : IntKind.i64.wrap (250 + (IntKind.i64.wrap (n.tmod 11 + 11)).tmod 11) = (N : Int)) (h1 : 250 ≤ N) (h2 : N ≤ 255) (w : World) (hk : Kw w) : Calls Tryz.prog 5 #[.int .i64 kind, .int .i64 n] w fun e w' => e = .returned (.bool true) ∧ Below w.heap.size w w' := by
  have hb3 : Below w.heap.size w (((w.alloc (.cells #[.string ⟨#[40]⟩, .string ⟨#[40]⟩, .string ⟨#[40]⟩, .string ⟨#[108, 101, 116, 32, 105, 110, 32]⟩] 9)).alloc (.cells #[.string ⟨#[41]⟩, .string ⟨#[41]⟩, .string ⟨#[41]⟩, .string ⟨#[32, 101, 110, 100]⟩] 9)).alloc (.cells #[.int .i64 1, .int .i64 2, .int .i64 3, .int .i64 1] 3)) := (((Below.refl w.heap.size w).alloc (Nat.le_refl _) _).alloc (by simp) _).alloc (by simp; omega) _
  have HB3 := Lib.hid hb3
  have HK3 := Lib.hid (hk.step hb3)
  have HNS := Lib.hid (nested_any N (by omega) ⟨#[108, 101, 116, 32, 105, 110, 32]⟩ ⟨#[120]⟩ ⟨#[32, 101, 110, 100]⟩ (by decide) (by decide) (by decide) ((w.alloc (.cells #[.string ⟨#[40]⟩, .string ⟨#[40]⟩, .string ⟨#[40]⟩, .string ⟨#[108, 101, 116, 32, 105, 110, 32]⟩] 9)).alloc (.cells #[.string ⟨#[41]⟩, .string ⟨#[41]⟩, .string ⟨#[41]⟩, .string ⟨#[32, 101, 110, 100]⟩] 9)))
  simp only [IntWalk.i64_left] at hc hN
  have hlt : (N : Int) < 256 := by omega
  have HR := Lib.hid (And.intro h1 h2)
  clear hb3 hk h1 h2
  go_enter Tryz.func5, Tryz.ntmps5
  go_wp2_with fail
  refine HNS.out.mono ?_
  rintro e wq ⟨t, rfl, ht, rfl⟩
  have hts : t.data.toList = repL letB N ++ 120 :: repL endB N := by simpa using ht
  have htz : t.size ≤ 1000000 := by
    have := HR.out
    rw [← data_len, hts]; simp [repL_len]; omega
  have H1 := Lib.hid (read_exp t htz (((w.alloc (.cells #[.string ⟨#[40]⟩, .string ⟨#[40]⟩, .string ⟨#[40]⟩, .string ⟨#[108, 101, 116, 32, 105, 110, 32]⟩] 9)).alloc (.cells #[.string ⟨#[41]⟩, .string ⟨#[41]⟩, .string ⟨#[41]⟩, .string ⟨#[32, 101, 110, 100]⟩] 9)).alloc (.cells #[.int .i64 1, .int .i64 2, .int .i64 3, .int .i64 1] 3)) HK3.out)
  have HT := Lib.hid hts
  clear ht hts htz HNS
  go_wp2_with fail
  refine H1.out.mono ?_
  intro e w4 hsd
  obtain ⟨hb, y, rfl, hq⟩ := ok_of' (Q := fun x => x.k = 35) hsd (lets_first t N HT.out) (fun S g1 g2 => by
    obtain ⟨P, hl⟩ := lets_of S N (by rw [g1]; exact HT.out) (by rw [g1]; exact g2)
    have hn := HR.out
    obtain ⟨b, e1, e2⟩ := lets_ok P (by omega) (by omega) hl
    exact ⟨b, _, whole_ok e1 P.z.1, e2⟩)
  obtain ⟨m1, f1, t1, np1, nn1, nc1, ns1, kp1, kn1, kc1, ks1, rfl⟩ := pb_head hq
  have bx := Lib.cell_of_heap (heap_alloc_new w4 (.cells #[.int .i64 35, .int .i64 m1, .int .i64 f1, .int .i64 t1, .slice np1 nn1 nc1, .slice kp1 kn1 kc1] 26)) 0
  simp only [List.getElem?_toArray, List.getElem?_cons_zero] at bx
  have hb4 := HB3.out.trans (hb.mono HB3.out.size)
  have hbZ : Below w4.heap.size w4 (w4.alloc (.cells #[.int .i64 35, .int .i64 m1, .int .i64 f1, .int .i64 t1, .slice np1 nn1 nc1, .slice kp1 kn1 kc1] 26)) := (Below.refl _ _).alloc (Nat.le_refl _) _
  have HB5 := Lib.hid (hb4.trans (hbZ.mono hb4.size))
  have HL := Lib.hid (alive_any _ ((HK3.out.step hb).step hbZ))
  clear hsd hb hq hb4 hbZ H1 HK3 HB3 HT HR
  simp only [Hd.val, Br.h]
  go_wp2_with (first | (go_at_call 9; refine (no_any _ _).mono ?_; rintro e w' ⟨rfl, rfl⟩) | (go_at_call 7; refine HL.out.mono ?_; rintro e w6 ⟨rfl, hb6⟩; have HB6 := Lib.hid (HB5.out.trans (hb6.mono HB5.out.size)); clear hb6))
  go_ret
  exact ⟨rfl, HB6.out⟩
set_option maxHeartbeats 600000 in
theorem deep_3_b (kind n : Int) (N : Nat) (hc : (IntKind.i64.wrap (kind.tmod 4 + 4)).tmod 4 = 3) (hN : IntKind.i64.wrap (250 + (IntKind.i64.wrap (n.tmod 11 + 11)).tmod 11) = (N : Int)) (h1 : 256 ≤ N) (h2 : N ≤ 260) (w : World) (hk : Kw w) : Calls Tryz.prog 5 #[.int .i64 kind, .int .i64 n] w fun e w' => e = .returned (.bool true) ∧ Below w.heap.size w w' := by
  have hb3 : Below w.heap.size w (((w.alloc (.cells #[.string ⟨#[40]⟩, .string ⟨#[40]⟩, .string ⟨#[40]⟩, .string ⟨#[108, 101, 116, 32, 105, 110, 32]⟩] 9)).alloc (.cells #[.string ⟨#[41]⟩, .string ⟨#[41]⟩, .string ⟨#[41]⟩, .string ⟨#[32, 101, 110, 100]⟩] 9)).alloc (.cells #[.int .i64 1, .int .i64 2, .int .i64 3, .int .i64 1] 3)) := (((Below.refl w.heap.size w).alloc (Nat.le_refl _) _).alloc (by simp) _).alloc (by simp; omega) _
  have HB3 := Lib.hid hb3
  have HK3 := Lib.hid (hk.step hb3)
  have HNS := Lib.hid (nested_any N (by omega) ⟨#[108, 101, 116, 32, 105, 110, 32]⟩ ⟨#[120]⟩ ⟨#[32, 101, 110, 100]⟩ (by decide) (by decide) (by decide) ((w.alloc (.cells #[.string ⟨#[40]⟩, .string ⟨#[40]⟩, .string ⟨#[40]⟩, .string ⟨#[108, 101, 116, 32, 105, 110, 32]⟩] 9)).alloc (.cells #[.string ⟨#[41]⟩, .string ⟨#[41]⟩, .string ⟨#[41]⟩, .string ⟨#[32, 101, 110, 100]⟩] 9)))
  simp only [IntWalk.i64_left] at hc hN
  have hlt : ¬ (N : Int) < 256 := by omega
  have HR := Lib.hid (And.intro h1 h2)
  clear hb3 hk h1 h2
  go_enter Tryz.func5, Tryz.ntmps5
  go_wp2_with fail
  refine HNS.out.mono ?_
  rintro e wq ⟨t, rfl, ht, rfl⟩
  have hts : t.data.toList = repL letB N ++ 120 :: repL endB N := by simpa using ht
  have htz : t.size ≤ 1000000 := by
    have := HR.out
    rw [← data_len, hts]; simp [repL_len]; omega
  have H1 := Lib.hid (read_exp t htz (((w.alloc (.cells #[.string ⟨#[40]⟩, .string ⟨#[40]⟩, .string ⟨#[40]⟩, .string ⟨#[108, 101, 116, 32, 105, 110, 32]⟩] 9)).alloc (.cells #[.string ⟨#[41]⟩, .string ⟨#[41]⟩, .string ⟨#[41]⟩, .string ⟨#[32, 101, 110, 100]⟩] 9)).alloc (.cells #[.int .i64 1, .int .i64 2, .int .i64 3, .int .i64 1] 3)) HK3.out)
  have HT := Lib.hid hts
  clear ht hts htz HNS
  go_wp2_with fail
  refine H1.out.mono ?_
  intro e w4 hsd
  obtain ⟨hb, rfl⟩ := deep_of (p := 1792) hsd (lets_first t N HT.out) (fun S g1 g2 => by
    obtain ⟨P, hl⟩ := lets_of S N (by rw [g1]; exact HT.out) (by rw [g1]; exact g2)
    have hn := HR.out
    refine ⟨whole_deep (lets_deep P (by omega) hl), ?_⟩
    exact lets_pl S N (by omega) (by rw [g1]; exact HT.out) (by rw [g1]; exact g2))
  have hb4 := HB3.out.trans (hb.mono HB3.out.size)
  have hbZ : Below w4.heap.size w4 (w4.alloc boxZ) := (Below.refl _ _).alloc (Nat.le_refl _) _
  have HB5 := Lib.hid (hb4.trans (hbZ.mono hb4.size))
  have HL := Lib.hid (alive_any _ ((HK3.out.step hb).step hbZ))
  clear hsd hb hb4 hbZ H1 HK3 HB3 HT HR
  go_wp2_with (first | (go_at_call 9; refine (no_any _ _).mono ?_; rintro e w' ⟨rfl, rfl⟩) | (go_at_call 7; refine HL.out.mono ?_; rintro e w6 ⟨rfl, hb6⟩; have HB6 := Lib.hid (HB5.out.trans (hb6.mono HB5.out.size)); clear hb6))
  go_ret
  exact ⟨rfl, HB6.out⟩
theorem deep_any (kind n : Int) (w : World) (hk : Kw w) : Calls Tryz.prog 5 #[.int .i64 kind, .int .i64 n] w fun e w' => e = .returned (.bool true) ∧ Below w.heap.size w w' := by
  obtain ⟨c, hc1, hc2⟩ := mod_range kind 4 (by omega) (by omega)
  obtain ⟨q, hq1, hq2⟩ := mod_range n 11 (by omega) (by omega)
  have hN : IntKind.i64.wrap (250 + (IntKind.i64.wrap (n.tmod 11 + 11)).tmod 11) = ((250 + q : Nat) : Int) := by
    rw [hq2, IntWalk.i64_in _ (by omega)]; omega
  have hcc : c = 0 ∨ c = 1 ∨ c = 2 ∨ c = 3 := by omega
  rcases Nat.lt_or_ge (250 + q) 256 with h | h
  · rcases hcc with rfl | rfl | rfl | rfl
    · exact deep_0_a kind n _ hc2 hN (by omega) (by omega) w hk
    · exact deep_1_a kind n _ hc2 hN (by omega) (by omega) w hk
    · exact deep_2_a kind n _ hc2 hN (by omega) (by omega) w hk
    · exact deep_3_a kind n _ hc2 hN (by omega) (by omega) w hk
  · rcases hcc with rfl | rfl | rfl | rfl
    · exact deep_0_b kind n _ hc2 hN (by omega) (by omega) w hk
    · exact deep_1_b kind n _ hc2 hN (by omega) (by omega) w hk
    · exact deep_2_b kind n _ hc2 hN (by omega) (by omega) w hk
    · exact deep_3_b kind n _ hc2 hN (by omega) (by omega) w hk
end Go.Proofs.YtkjgkchdkeggoaaGreatDoor
