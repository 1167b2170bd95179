/-
  'append(v, s...)' where v is the call's own and s reads as a list, be it nil, empty or not.
-/
import Derived.Test.YtlfnefgcndhomaaPut
namespace Go.Proofs.Ytlfnefgcndhomaa
open Go.RowKit
set_option linter.unusedVariables false

theorem run_append_none_any {P : Program} (w : World) (base : Nat) (t ty e : TypeId) (i : TypeInfo) (size : Nat) (ht : P.underlying t = some (.slice e)) (hi : P.info? e = some i)
    (v : Value) (n : Nat) (xs : List Value) (hown : w.ownsRow base e size v n xs) (c : Nat) :
    (Builtin.append_ #[t, t] ty #[v, .slice none 0 c]).run P w = .ok v w := by
  rcases hown.2 with ⟨rfl, rfl⟩ | ⟨g, cap, cur, rfl, _, _, hnc, _⟩
  · simp [Builtin.append_, run_underlying ht, sizeOf, typeInfo, hi, Builtin.lenOf, Builtin.firstCells]
  · simp [Builtin.append_, run_underlying ht, sizeOf, typeInfo, hi, Builtin.lenOf, Builtin.firstCells, hnc, storeCells]

theorem run_append_in {P : Program} (w : World) (base : Nat) (t ty e : TypeId) (i : TypeInfo) (z : Value) (bytes : Nat) (ht : P.underlying t = some (.slice e)) (hi : P.info? e = some i) (hz : i.zero = some z)
    (hsize : i.size = 1) (hby : i.bytes = bytes) (hzs : z.cells.size = 1)
    (v : Value) (n : Nat) (xs : List Value) (hown : w.ownsRow base e 1 v n xs)
    {α : Type} (mk : α → Value) (hmk : ∀ x, (mk x).oneCell' = true) (p : Option Addr) (m c : Nat) (l : List α) (hin : In mk w p m c l)
    (h63 : n + m ≤ maxLen) (hbytes : (n + m) * bytes ≤ 140737488355328) (hbase : base ≤ w.heap.size) :
    ∃ v' w', (Builtin.append_ #[t, t] ty #[v, .slice p m c]).run P w = .ok v' w' ∧ w'.ownsRow base e 1 v' (n + m) (xs ++ l.map mk) ∧ w.grownBy w' v.ownBlock := by
  cases p with
  | none =>
    obtain ⟨hm, h0 | ⟨b, off, hp, _⟩⟩ := hin
    · subst h0
      have : l = [] := List.length_eq_zero_iff.1 hm.symm
      subst this
      refine ⟨v, w, run_append_none_any w base t ty e i 1 ht hi v n xs hown c, by simpa using hown, grown_same w _⟩
    · simp at hp
  | some ad =>
    have hnews : ∀ j u, (l.map mk)[j]? = some u → w.cell? (ad.add j) = some u := by
      obtain ⟨hm, h0 | ⟨b, off, hp, _, _, hat⟩⟩ := hin
      · have : l = [] := List.length_eq_zero_iff.1 (by omega)
        subst this
        intro j u h; simp at h
      · obtain rfl : ad = ⟨b, off, none⟩ := by simpa using hp
        exact news_of hat
    obtain ⟨v', w', h1, h2, h3, _⟩ := run_append_own (P := P) w base t ty e i z 1 bytes ht hi hz hsize hby hzs (by omega) v n xs hown ad m c (l.map mk) (by simp [hin.1]) hnews (ones_of hmk l) h63 hbytes hbase
    exact ⟨v', w', h1, h2, h3⟩

theorem wpList_append_in {P : Program} (w : World) {ops : Array Oper} {rest : List Oper} {o : Oper} {a : Act} {Q : Exit → Act → World → Prop} (hgd : o.guard = none) (s x : Operand) (t : TypeId)
    (ho : o.op = .call { callee := .builtin .append, args := #[s, x], argTypes := #[t, t] })
    (base : Nat) (e : TypeId) (i : TypeInfo) (z : Value) (bytes : Nat) (ht : P.underlying t = some (.slice e)) (hi : P.info? e = some i) (hz : i.zero = some z)
    (hsize : i.size = 1) (hby : i.bytes = bytes) (hzs : z.cells.size = 1)
    (v : Value) (n : Nat) (xs : List Value) (hs : a.eval s = v) (hown : w.ownsRow base e 1 v n xs)
    {α : Type} (mk : α → Value) (hmk : ∀ x, (mk x).oneCell' = true) (p : Option Addr) (m c : Nat) (l : List α) (hx : a.eval x = .slice p m c) (hin : In mk w p m c l)
    (h63 : n + m ≤ maxLen) (hbytes : (n + m) * bytes ≤ 140737488355328) (hbase : base ≤ w.heap.size)
    (h : ∀ v' w', w'.ownsRow base e 1 v' (n + m) (xs ++ l.map mk) → w.grownBy w' v.ownBlock → wpList P ops Q rest (a.put o.dst v') w') : wpList P ops Q (o :: rest) a w := by
  obtain ⟨v', w', hr, h2, h3⟩ := run_append_in (P := P) w base t o.type e i z bytes ht hi hz hsize hby hzs v n xs hown mk hmk p m c l hin h63 hbytes hbase
  refine wpList_plain hgd fun K hK => ?_
  unfold Oper.wp execOp
  simp only [ho, resolve, invoke, builtin, Sem.run_bind, Sem.run_pure, Result.andThen_ok, List.map_toArray, List.map_cons, List.map_nil, hs, hx, hr]
  exact hK _ _ (h v' w' h2 h3)
theorem oneB (x : UInt8) : (mkB x).oneCell' = true := rfl
theorem oneI (x : Int) : (mkI x).oneCell' = true := rfl
theorem oneW (x : Nat) : (mkW x).oneCell' = true := rfl
end Go.Proofs.Ytlfnefgcndhomaa
