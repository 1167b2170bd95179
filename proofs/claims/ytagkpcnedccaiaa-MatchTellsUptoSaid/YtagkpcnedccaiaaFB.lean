/-
  The document's bindings, as they lie in memory, and as an argument.; The document's Size of bindings, and few.
-/
import Derived.Test.YtagkpcnedccaiaaFA
import Derived.Deep.Slices
import Derived.Deep.SlicePairs
import Derived.ChangeSame
import Derived.ProofKit
import Derived.OpenShut
import Derived.ChangeOld
import Derived.Carry
import Derived.Lib.SmallJoins
set_option maxRecDepth 100000
namespace Go.Proofs.Ytagkpcnedccaiaa
open Go.ChangeShapes Go.WideShapes Go.ChangeAt Go.RowKit Go.Deep
set_option linter.unusedVariables false
set_option linter.unusedSimpArgs false

/-- A binding's own parts, and where its two lists lie. -/
structure Bh where
 k : Ky
 dc : Int
 via : Int
 pp : Option Addr
 pn : Nat
 pc : Nat
 qp : Option Addr
 qn : Nat
 qc : Nat
inductive Bn where
 | mk (h : Bh) (ps qs : List Bn)
def Bn.h : Bn → Bh | .mk h _ _ => h
def Bn.ps : Bn → List Bn | .mk _ ps _ => ps
def Bn.qs : Bn → List Bn | .mk _ _ qs => qs
/-- A binding's six cells. -/
structure BnAt (w : World) (b o : Nat) (h : Bh) : Prop where
 c0 : w.cell? ⟨b, o, none⟩ = some (.int .i64 h.k.1)
 c1 : w.cell? ⟨b, o + 1, none⟩ = some (.string h.k.2)
 c2 : w.cell? ⟨b, o + 2, none⟩ = some (.int .i64 h.dc)
 c3 : w.cell? ⟨b, o + 3, none⟩ = some (.int .i64 h.via)
 c4 : w.cell? ⟨b, o + 4, none⟩ = some (.slice h.pp h.pn h.pc)
 c5 : w.cell? ⟨b, o + 5, none⟩ = some (.slice h.qp h.qn h.qc)
theorem BnAt.step {w w1 : World} {b o : Nat} {h : Bh} (hh : BnAt w b o h) (hb : b < w.heap.size) (hw : Below w.heap.size w w1) : BnAt w1 b o h :=
 ⟨(hw.cell (p := ⟨b, _, none⟩) hb).trans hh.c0, (hw.cell (p := ⟨b, _, none⟩) hb).trans hh.c1, (hw.cell (p := ⟨b, _, none⟩) hb).trans hh.c2, (hw.cell (p := ⟨b, _, none⟩) hb).trans hh.c3, (hw.cell (p := ⟨b, _, none⟩) hb).trans hh.c4, (hw.cell (p := ⟨b, _, none⟩) hb).trans hh.c5⟩
/-- A row of bindings, not looked into. -/
def BnIn (w : World) (p : Option Addr) (n c : Nat) (l : List Bn) : Prop :=
 n = l.length ∧ (n = 0 ∨ ∃ b o, p = some ⟨b, o, none⟩ ∧ n ≤ c ∧ b < w.heap.size ∧ ∀ i x, l[i]? = some x → BnAt w b (o + i * 6) x.h)
theorem BnIn.step {w w1 : World} {p : Option Addr} {n c : Nat} {l : List Bn} (h : BnIn w p n c l) (hw : Below w.heap.size w w1) : BnIn w1 p n c l := by
 obtain ⟨hn, h0 | ⟨b, o, hp, hc, hb, hat⟩⟩ := h
 ·exact ⟨hn, .inl h0⟩
 ·exact ⟨hn, .inr ⟨b, o, hp, hc, Nat.lt_of_lt_of_le hb hw.size, fun i x hx => (hat i x hx).step hb hw⟩⟩
mutual
/-- It lies in memory, with all its lists. -/
def Bn.Lies (w : World) : Bn → Prop
 | .mk h ps qs => BnIn w h.pp h.pn h.pc ps ∧ BnIn w h.qp h.qn h.qc qs ∧ AllLie w ps ∧ AllLie w qs
def AllLie (w : World) : List Bn → Prop
 | [] => True
 | b :: r => b.Lies w ∧ AllLie w r
end
theorem allLie_iff (w : World) (ks : List Bn) : AllLie w ks ↔ ∀ b ∈ ks, b.Lies w := by
 induction ks with
 | nil => simp [AllLie]
 | cons x r ih => simp [AllLie, ih]
theorem lies_iff (w : World) (b : Bn) : b.Lies w ↔ BnIn w b.h.pp b.h.pn b.h.pc b.ps ∧ BnIn w b.h.qp b.h.qn b.h.qc b.qs ∧ AllLie w b.ps ∧ AllLie w b.qs := by
 cases b; simp only [Bn.Lies, Bn.h, Bn.ps, Bn.qs]
mutual
theorem Bn.Lies.step {w w1 : World} (hw : Below w.heap.size w w1) : ∀ b : Bn, b.Lies w → b.Lies w1
 | .mk h ps qs, hl => by
  simp only [Bn.Lies] at hl ⊢
  exact ⟨hl.1.step hw, hl.2.1.step hw, AllLie.step hw ps hl.2.2.1, AllLie.step hw qs hl.2.2.2⟩
theorem AllLie.step {w w1 : World} (hw : Below w.heap.size w w1) : ∀ l : List Bn, AllLie w l → AllLie w1 l
 | [], _ => trivial
 | b :: r, hl => by
  simp only [AllLie] at hl ⊢
  exact ⟨Bn.Lies.step hw b hl.1, AllLie.step hw r hl.2⟩
end
/-- A list of bindings, whole. -/
def Bl (w : World) (p : Option Addr) (n c : Nat) (l : List Bn) : Prop := BnIn w p n c l ∧ AllLie w l
theorem Bl.step {w w1 : World} {p : Option Addr} {n c : Nat} {l : List Bn} (h : Bl w p n c l) (hw : Below w.heap.size w w1) : Bl w1 p n c l := ⟨h.1.step hw, AllLie.step hw l h.2⟩

theorem binds_of_trod {H : Type} {enc : TypeId × Value → H} {W : World} : ∀ (fuel : Nat) (cs : List Value) (x : DataW H × List MemPlace),
  DataW.trod enc Try.prog W 0 (fun _ => true) true fuel 22 cs = some x → ∃ p n c l, cs = [.slice p n c] ∧ n ≤ maxLen ∧ Bl W p n c l := by
 intro fuel
 induction fuel using Nat.strongRecOn with
 | _ fuel ih =>
  intro cs x h
  have hc45 : Try.prog.cellsOf 33 = 6 := by kernel_rfl
  have hc3 : Try.prog.cellsOf 3 = 1 := by kernel_rfl
  have hc9 : Try.prog.cellsOf 9 = 1 := by kernel_rfl
  have hc22 : Try.prog.cellsOf 22 = 1 := by kernel_rfl
  rcases DataW.trod_slice Try.underlying22 h with ⟨e5, _⟩ | ⟨a, len, cap, elems, rest, n', hn', e5, _, _, hle, hmx, hel, hat, _, _⟩
  ·exact ⟨none, 0, 0, [], e5, by omega, ⟨rfl, .inl rfl⟩, trivial⟩
  ·cases len with
   | zero => exact ⟨some a, 0, cap, [], e5, by omega, ⟨rfl, .inl rfl⟩, trivial⟩
   | succ j =>
    have each : ∀ i, i < j + 1 → ∃ b : Bn, b.Lies W ∧ W.cell? ((a.add (i * 6)).add 0) = some (.int .i64 b.h.k.1) ∧ W.cell? ((a.add (i * 6)).add 1) = some (.string b.h.k.2) ∧ W.cell? ((a.add (i * 6)).add 2) = some (.int .i64 b.h.dc) ∧ W.cell? ((a.add (i * 6)).add 3) = some (.int .i64 b.h.via) ∧ W.cell? ((a.add (i * 6)).add 4) = some (.slice b.h.pp b.h.pn b.h.pc) ∧ W.cell? ((a.add (i * 6)).add 5) = some (.slice b.h.qp b.h.qn b.h.qc) := fun i hi => by
     have h1 := hat i hi
     rw [hc45, List.getElem?_eq_getElem (by omega)] at h1
     obtain ⟨cs', h2, h3⟩ := Option.bind_eq_some_iff.1 h1
     obtain ⟨_, hlen6, hcell⟩ := World.cells?_some h2
     obtain ⟨xs, m, hm, _, hl, hlen, hf⟩ := DataW.trod_struct Try.underlying33 h3
     rw [hc45] at hl
     match cs', hl, xs, hlen with
     | [c0, c1, c2, c3, c4, c5], _, [y0, y1, y2, y3, y4, y5], _ =>
      have g0 := hf 0 _ rfl
      have g1 := hf 1 _ rfl
      have g2 := hf 2 _ rfl
      have g3 := hf 3 _ rfl
      have g4 := hf 4 _ rfl
      have g5 := hf 5 _ rfl
      simp [hc3, hc9, hc22] at g0 g1 g2 g3 g4 g5
      obtain ⟨i0, e0, _, _⟩ := DataW.trod_int Try.underlying3 g0
      obtain ⟨s1, e1, _, _⟩ := DataW.trod_string Try.underlying9 g1
      obtain ⟨i2, e2, _, _⟩ := DataW.trod_int Try.underlying3 g2
      obtain ⟨i3, e3, _, _⟩ := DataW.trod_int Try.underlying3 g3
      obtain ⟨p4, n4, k4, l4, e4, _, b4⟩ := ih m (by omega) _ _ g4
      obtain ⟨p5, n5, k5, l5, e5', _, b5⟩ := ih m (by omega) _ _ g5
      simp only [List.cons.injEq, and_true] at e0 e1 e2 e3 e4 e5'
      subst e0 e1 e2 e3 e4 e5'
      refine ⟨.mk ⟨(i0, s1), i2, i3, p4, n4, k4, p5, n5, k5⟩ l4 l5, ⟨b4.1, b5.1, b4.2, b5.2⟩, ?_, ?_, ?_, ?_, ?_, ?_⟩
      ·exact (hcell 0 (by omega)).trans rfl
      ·exact (hcell 1 (by omega)).trans rfl
      ·exact (hcell 2 (by omega)).trans rfl
      ·exact (hcell 3 (by omega)).trans rfl
      ·exact (hcell 4 (by omega)).trans rfl
      ·exact (hcell 5 (by omega)).trans rfl
    obtain ⟨b, off, spot⟩ := a
    obtain ⟨_, _, h0, _⟩ := each 0 (by omega)
    have hspot : spot = none := by simpa [Addr.add] using World.cell?_spot h0
    subst hspot
    have hadd : ∀ k, (⟨b, off, none⟩ : Addr).add k = ⟨b, off + k, none⟩ := fun k => by
     unfold Addr.add; split <;> simp_all
    have hadd2 : ∀ o k, (⟨b, o, none⟩ : Addr).add k = ⟨b, o + k, none⟩ := fun o k => by
     unfold Addr.add; split <;> simp_all
    have hinh : Inhabited Bn := ⟨.mk ⟨(0, ByteArray.empty), 0, 0, none, 0, 0, none, 0, 0⟩ [] []⟩
    obtain ⟨q, hq⟩ := choose_lt each
    refine ⟨some ⟨b, off, none⟩, j + 1, cap, (List.range (j + 1)).map q, e5, by omega, ⟨by simp, .inr ⟨b, off, rfl, hle, World.block_lt_of_cell? W _ h0, ?_⟩⟩, ?_⟩
    ·intro i y hy
     have hi2 : i < j + 1 := by have := (List.getElem?_eq_some_iff.1 hy).1; simpa using this
     obtain ⟨_, k0, k1, k2, k3, k4, k5⟩ := hq i hi2
     have : y = q i := by simpa [hi2] using hy.symm
     subst this
     rw [hadd, hadd2] at k0 k1 k2 k3 k4 k5
     exact ⟨k0, k1, k2, k3, k4, k5⟩
    ·refine (allLie_iff _ _).2 fun y hy => ?_
     obtain ⟨i, hi, rfl⟩ := List.mem_map.1 hy
     exact (hq i (by simpa using hi)).1
theorem binds_arg {H : Type} {enc : TypeId × Value → H} {W : World} {base : Nat} {v : Value} {d : DataW H} {p : List MemPlace} (hv : Value.okWide Try.prog W .any base 22 v)
  (h : DataW.Trod enc Try.prog W 0 (fun _ => true) true 22 v d p) : ∃ q n c l, v = .slice q n c ∧ n ≤ maxLen ∧ Bl W q n c l := by
 obtain ⟨q, n, c, rfl⟩ := okWide_slice Try.underlying22 hv
 obtain ⟨fuel, hf⟩ := h
 obtain ⟨q', n', c', l, hcs, hn, hb⟩ := binds_of_trod fuel _ _ hf
 have : ([.slice q n c] : List Value) = [.slice q' n' c'] := by simpa [Value.cells] using hcs
 simp only [List.cons.injEq, and_true, Value.slice.injEq] at this
 obtain ⟨rfl, rfl, rfl⟩ := this
 exact ⟨_, _, _, l, rfl, hn, hb⟩
end Go.Proofs.Ytagkpcnedccaiaa

namespace Go.Proofs.Ytagkpcnedccaiaa
open Go.RowKit
set_option maxRecDepth 20000
set_option linter.unusedVariables false
set_option linter.unusedSimpArgs false

mutual
def Bn.size : Bn → Nat
 | .mk _ ps qs => 1 + sizes ps + sizes qs
def sizes : List Bn → Nat
 | [] => 0
 | b :: r => b.size + sizes r
end
theorem Bn.size_eq (b : Bn) : b.size = 1 + sizes b.ps + sizes b.qs := by cases b; simp only [Bn.size, Bn.ps, Bn.qs]
theorem sizes_len (l : List Bn) : l.length ≤ sizes l := by
 induction l with
 | nil => simp [sizes]
 | cons x r ih => have := x.size_eq; simp only [List.length_cons, sizes]; omega
theorem size_mem {b : Bn} {l : List Bn} (h : b ∈ l) : b.size ≤ sizes l := by
 induction l with
 | nil => cases h
 | cons x r ih =>
  simp only [sizes]
  rcases List.mem_cons.1 h with rfl | h
  ·omega
  ·have := ih h; omega
mutual
def rsB (m : Int) : Bn → Int
 | .mk _ ps qs => rsL m 0 ps + rsL m 0 qs
def rsL (most n : Int) : List Bn → Int
 | [] => n
 | b :: r => if n ≤ most then rsL most (n + 1 + rsB (most - n) b) r else n
end
theorem rsB_eq (m : Int) (b : Bn) : rsB m b = rsL m 0 b.ps + rsL m 0 b.qs := by cases b; simp only [rsB, Bn.ps, Bn.qs]
mutual
theorem rsB_bd : ∀ (b : Bn) (m : Int), 0 ≤ rsB m b ∧ rsB m b + 1 ≤ (b.size : Nat) ∧ (rsB m b ≤ m → rsB m b + 1 = (b.size : Nat))
 | .mk h ps qs, m => by
  have h1 := rsL_bd ps m 0 (by omega)
  have h2 := rsL_bd qs m 0 (by omega)
  simp only [rsB, Bn.size]
  refine ⟨by omega, by omega, fun h => ?_⟩
  have := h1.2.2 (by omega)
  have := h2.2.2 (by omega)
  omega
theorem rsL_bd : ∀ (l : List Bn) (m n : Int), 0 ≤ n → n ≤ rsL m n l ∧ rsL m n l ≤ n + (sizes l : Nat) ∧ (rsL m n l ≤ m → rsL m n l = n + (sizes l : Nat))
 | [], m, n, hn => by simp [rsL, sizes]
 | b :: r, m, n, hn => by
  simp only [rsL, sizes]
  by_cases hc : n ≤ m
  ·rw [if_pos hc]
   have h1 := rsB_bd b (m - n)
   have h2 := rsL_bd r m (n + 1 + rsB (m - n) b) (by omega)
   refine ⟨by omega, by omega, fun h => ?_⟩
   have h3 := h2.2.2 h
   have h4 := h1.2.2 (by omega)
   omega
  ·rw [if_neg hc]
   exact ⟨by omega, by omega, fun h => absurd h hc⟩
end
def SizePost (l : List Bn) (most : Int) (w : World) (e : Ending) (w' : World) : Prop := e = .returned (.int .i64 (rsL most 0 l)) ∧ ∃ d, w' = w.drewN d
theorem below_dN (w : World) (d : Nat) : Below w.heap.size w (w.drewN d) := below_drewN (Below.refl _ _) d
set_option maxHeartbeats 8000000 in
theorem size15 : ∀ (m : Nat) (l : List Bn), sizes l ≤ m → m ≤ 2000000 → ∀ (most : Int) (w : World) (p : Option Addr) (n c : Nat), 0 ≤ most → most ≤ 1000 → Bl w p n c l → Calls Try.prog 22 #[.slice p n c, .int .i64 most] w (SizePost l most w) := by
 intro m
 induction m using Nat.strongRecOn with
 | _ m ih =>
  intro l hl hm most w p n c h0 h1 hb
  have HB := Lib.hid hb.1
  have HA := Lib.hid hb.2
  have HL := Lib.hid hl
  have HM := Lib.hid hm
  have hn : n = l.length := hb.1.1
  have hnl : n ≤ 2000000 := by have := sizes_len l; omega
  have HN := Lib.hid hn
  have IH := Lib.hid ih
  clear hb hl hm hn ih
  go_enter Try.func22, Try.ntmps22
  go_wp2_with fail
  go_loopw [5, 6] (fun v i wr => ∃ (k : Nat) (x : Int), k ≤ n ∧ i = .int .i64 k ∧ v = .int .i64 x ∧ 0 ≤ x ∧ x ≤ 2000000 ∧ Hid (rsL most 0 l = rsL most x (l.drop k)) ∧ Hid (∃ d, wr = w.drewN d)) (fun _ i _ => n - (intOf i).toNat)
  case atStart => exact ⟨0, 0, by omega, rfl, rfl, by omega, by omega, Lib.hid rfl, Lib.hid ⟨0, rfl⟩⟩
  case round =>
   obtain ⟨k, x, hk, rfl, rfl, hx0, hx1, HR, HD⟩ := hrel
   have HBW : Hid (Below w.heap.size w wr) := Lib.hid (by obtain ⟨d, hd⟩ := HD.out; rw [hd]; exact below_dN w d)
   by_cases hlt : k < n
   ·by_cases hxm : x ≤ most
    ·obtain ⟨hn1, h0' | ⟨gb, ob, rfl, hcb, hgb, hat⟩⟩ := HB.out
     ·omega
     obtain ⟨y, hy⟩ : ∃ y, l[k]? = some y := ⟨_, List.getElem?_eq_getElem (by omega)⟩
     have hym := List.mem_of_getElem? hy
     obtain ⟨_, _, _, _, v4, v5⟩ := (hat k y hy).step hgb HBW.out
     have hgb2 : gb < wr.heap.size := Nat.lt_of_lt_of_le hgb HBW.out.size
     have hly := (lies_iff _ _).1 ((allLie_iff _ _).1 HA.out y hym)
     have hsz := size_mem hym
     have hse := y.size_eq
     have hdr : l.drop k = y :: l.drop (k + 1) := by
      obtain ⟨hkl, he⟩ := List.getElem?_eq_some_iff.1 hy
      rw [List.drop_eq_getElem_cons hkl, he]
     have HR2 : Hid (rsL most 0 l = rsL most (x + 1 + rsL (most - x) 0 y.ps + rsL (most - x) 0 y.qs) (l.drop (k + 1))) := Lib.hid (by
      rw [HR.out, hdr]; simp only [rsL]; rw [if_pos hxm, rsB_eq]; congr 1; omega)
     have hb1 := rsL_bd y.ps (most - x) 0 (by omega)
     have hb2 := rsL_bd y.qs (most - x) 0 (by omega)
     have hb3 := rsL_bd l most 0 (by omega)
     have hb4 : x + 1 + rsL (most - x) 0 y.ps + rsL (most - x) 0 y.qs ≤ 2000000 := by
      have h5 := rsL_bd (l.drop (k + 1)) most (x + 1 + rsL (most - x) 0 y.ps + rsL (most - x) 0 y.qs) (by omega)
      have := HL.out
      have := HM.out
      rw [← HR2.out] at h5
      omega
     have H1 : Hid (∀ W, Below w.heap.size w W → Calls Try.prog 22 #[.slice y.h.pp y.h.pn y.h.pc, .int .i64 (most - x)] W (SizePost y.ps (most - x) W)) := Lib.hid fun W hW => IH.out (sizes y.ps) (by have := HL.out; omega) y.ps (Nat.le_refl _) (by have := HM.out; have := HL.out; omega) (most - x) W _ _ _ (by omega) (by omega) (Bl.step ⟨hly.1, hly.2.2.1⟩ hW)
     have H2 : Hid (∀ W, Below w.heap.size w W → Calls Try.prog 22 #[.slice y.h.qp y.h.qn y.h.qc, .int .i64 (most - x)] W (SizePost y.qs (most - x) W)) := Lib.hid fun W hW => IH.out (sizes y.qs) (by have := HL.out; omega) y.qs (Nat.le_refl _) (by have := HM.out; have := HL.out; omega) (most - x) W _ _ _ (by omega) (by omega) (Bl.step ⟨hly.2.1, hly.2.2.2⟩ hW)
     have HBQ : Hid (∀ d, Below w.heap.size w (wr.drewN d)) := Lib.hid fun d => below_drewN HBW.out d
     have HQ1 : Hid (∀ d, Calls Try.prog 22 #[.slice y.h.pp y.h.pn y.h.pc, .int .i64 (most - x)] (wr.drewN d) fun e w' => e = .returned (.int .i64 (rsL (most - x) 0 y.ps)) ∧ ∃ n, w' = wr.drewN n) := Lib.hid fun d => (H1.out _ (HBQ.out d)).mono fun e w' h => by
      obtain ⟨h1, d', h2⟩ := h
      exact ⟨h1, d + d', by rw [h2, World.drewN_drewN]⟩
     have HQ2 : Hid (∀ d, Calls Try.prog 22 #[.slice y.h.qp y.h.qn y.h.qc, .int .i64 (most - x)] (wr.drewN d) fun e w' => e = .returned (.int .i64 (rsL (most - x) 0 y.qs)) ∧ ∃ n, w' = wr.drewN n) := Lib.hid fun d => (H2.out _ (HBQ.out d)).mono fun e w' h => by
      obtain ⟨h1, d', h2⟩ := h
      exact ⟨h1, d + d', by rw [h2, World.drewN_drewN]⟩
     have r1 : (0 : Int) ≤ (k : Int) := by omega
     have r2 : (k : Int) < (n : Int) := by omega
     clear H1 H2
     have hq1 := HQ1.out
     have hq2 := HQ2.out
     clear HQ1 HQ2
     have b1 : 0 ≤ rsL (most - x) 0 y.ps := hb1.1
     have b2 : 0 ≤ rsL (most - x) 0 y.qs := hb2.1
     clear hat hy hym hly hsz hse hdr HR hb1 hb2 hb3 hn1
     generalize y.h.pp = pp at *
     generalize y.h.pn = pn at *
     generalize y.h.pc = pc at *
     generalize y.h.qp = qp at *
     generalize y.h.qn = qn at *
     generalize y.h.qc = qc at *
     generalize rsL (most - x) 0 y.ps = s1 at *
     generalize rsL (most - x) 0 y.qs = s2 at *
     go_wp2_with fail
     go_quiet (first | (with_reducible exact hq1 _) | (with_reducible exact hq2 _))
     go_wp2_with fail
     go_roundw
     case rel => exact ⟨k + 1, _, by omega, by go_num, rfl, by omega, by omega, HR2, Lib.hid (by obtain ⟨d, hd⟩ := HD.out; exact ⟨_, by rw [hd, World.drewN_drewN]⟩)⟩
     case measure => simp [intOf]; omega
    ·have hdd : ∃ y r, l.drop k = y :: r := by
      cases hd : l.drop k with
      | nil => have := congrArg List.length hd; have := HN.out; simp at *; omega
      | cons y r => exact ⟨y, r, rfl⟩
     obtain ⟨y, r, hd⟩ := hdd
     have HF : Hid (rsL most 0 l = x) := Lib.hid (by rw [HR.out, hd]; simp only [rsL]; rw [if_neg hxm])
     clear hd HR
     go_wp2_with fail
     go_ret
     exact ⟨by rw [HF.out]; rfl, HD.out⟩
   ·have HF : Hid (rsL most 0 l = x) := Lib.hid (by rw [HR.out, List.drop_eq_nil_of_le (by have := HN.out; omega)]; simp only [rsL])
    clear HR
    go_wp2_with fail
    go_ret
    exact ⟨by rw [HF.out]; rfl, HD.out⟩
end Go.Proofs.Ytagkpcnedccaiaa
