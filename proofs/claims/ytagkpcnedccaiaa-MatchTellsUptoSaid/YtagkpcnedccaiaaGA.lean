/-
  The walk that gathers links (match.go's gather, its closure): a pair that was gone through.
-/
import Derived.Test.YtagkpcnedccaiaaFV
import Derived.Test.YtagkpcnedccaiaaFZ
import Derived.Test.YtagkpcnedccaiaaFJ
import Derived.BigRegion
import Derived.Deep.RegionLaw
namespace Go.Proofs.Ytagkpcnedccaiaa
open Go.ChangeShapes Go.WideShapes Go.ChangeAt Go.RowKit Go.Deep
set_option maxRecDepth 20000
set_option linter.unusedVariables false
set_option linter.unusedSimpArgs false

theorem zero81 (w : World) : (zeroValue 81).run Try.prog w = .ok (spanV 0 0) w := by kernel_rfl
theorem slice_mid25 {w : World} {p : Option Addr} {n c : Nat} {l : List P2} (i : TypeInfo) (hi : Try.prog.info? 48 = some i) (hs : i.size = 2) (h : PS w p n c l) (k e : Nat) (hk : k ≤ e) (he : e ≤ n) :
  ∃ p' c', (∀ w, (Instr.slice 25 (.slice p n c) (some (.int .i64 (k : Int))) (some (.int .i64 (e : Int))) none).run Try.prog w = .ok (.slice p' (e - k) c') w) ∧ PS w p' (e - k) c' ((l.drop k).take (e - k)) := by
 refine ⟨if c = k then p else p.map (fun x => x.add (k * 2)), c - k, fun w => ?_, ?_⟩
 ·have hc : n ≤ c ∨ n = 0 := by
   rcases h.2 with h0 | ⟨b, off, _, hc, _⟩
   ·exact .inr h0
   ·exact .inl hc
  have hec : e ≤ c := by omega
  simp [Instr.slice, run_underlying Try.underlying25, Instr.sliceBounds, Instr.sliceBound, asIntOf, sizeOf, typeInfo, hi, hs, hk, hec, go_sem]
 ·obtain ⟨hn, h0 | ⟨b, off, rfl, hc, hb, hat⟩⟩ := h
  ·refine ⟨by simp; omega, .inl (by omega)⟩
  ·by_cases hck : c = k
   ·rw [if_pos hck]
    exact ⟨by simp; omega, .inl (by omega)⟩
   ·rw [if_neg hck]
    have ha : Option.map (fun x : Addr => x.add (k * 2)) (some (⟨b, off, none⟩ : Addr)) = some ⟨b, off + k * 2, none⟩ := by
     simp only [Option.map_some, Option.some.injEq]
     unfold Addr.add; split <;> simp_all
    rw [ha]
    refine ⟨by simp; omega, .inr ⟨b, off + k * 2, rfl, by omega, hb, fun i p hi => ?_⟩⟩
    rw [List.getElem?_take] at hi
    split at hi
    ·rw [List.getElem?_drop] at hi
     have := hat (k + i) p hi
     rwa [show off + (k + i) * 2 = off + k * 2 + i * 2 by omega] at this
    ·cases hi
/-- An append of which the answer is known, as a step of a region that draws its order. -/
theorem step_append_run {P : Program} {ops : Array Oper} {o : Oper} {a : Act} {w : World} {K : Act → World → Prop} {Q : Exit → Act → World → Prop} {E : Prop} (hgd : o.guard = none) (s x : Operand) (t : TypeId)
  (ho : o.op = .call { callee := .builtin .append, args := #[s, x], argTypes := #[t, t] }) (v xv v' : Value) (w' : World) (hs : a.eval s = v) (hx : a.eval x = xv)
  (hr : (Builtin.append_ #[t, t] o.type #[v, xv]).run P w = .ok v' w') (h : K (a.put o.dst v') w') :
  if Region.wanted o (yielded ops a.tmps) = true then Oper.wp P o a w K Q else E := by
 have hw : Region.wanted o (yielded ops a.tmps) = true := by simp [Region.wanted, hgd]
 rw [if_pos hw]
 unfold Oper.wp execOp
 simp only [ho, resolve, invoke, builtin, Sem.run_bind, Sem.run_pure, Result.andThen_ok, List.map_toArray, List.map_cons, List.map_nil, hs, hx, hr]
 exact h
/-- What a walk over a pair leaves behind. -/
def GatPost (w0 w : World) (NB b cm cl cw : Nat) (ls : List P2) (T : List ((Option Nat × Option Nat) × Value)) (x y : List Bn) (e : Ending) (w' : World) : Prop :=
 e = .returned (.tuple #[]) ∧ ∃ v' T', Gs w0 w' NB b cm cl cw v' (ls ++ okL (mt x y)) T' ∧ SNew w0 T T' (ls ++ okL (mt x y)) ∧ Gf b cl NB w w'
theorem own_slice {w : World} {NB : Nat} {v : Value} {l : List P2} (h : OwnP 48 w NB v l) : ∃ q c, v = .slice q l.length c ∧ PS w q l.length c l := by
 obtain ⟨q, n, c, h1, h2⟩ := h.ps
 have := h2.1
 subst this
 exact ⟨q, c, h1, h2⟩
set_option maxHeartbeats 8000000 in
theorem gat_met (w0 w : World) (NB b cm cl cw n : Nat) (v : Value) (ls : List P2) (T : List ((Option Nat × Option Nat) × Value)) (a d : Option Nat) (x y : List Bn)
  (h : Gs w0 w NB b cm cl cw v ls T) (hB : Below w0.heap.size w0 w) (hb0 : w0.heap.size ≤ b) (hx : EnvIs w0 (a.bind at0) x) (hy : EnvIs w0 (d.bind at0) y) (hok : isOk (mt x y) = true) (hsp : Spn w0 n T ls) (hn : sizes x ≤ n) (hl : ls.length + sizes x ≤ 7000000)
  (hin : (lkm T (a, d)).isSome = true) :
  Calls Try.prog 38 #[.agg #[.pointer (a.bind at0), .pointer (d.bind at0)], .pointer (some ⟨cm, 0, none⟩), .pointer (some ⟨cl, 0, none⟩), .pointer (some ⟨cw, 0, none⟩)] w (GatPost w0 w NB b cm cl cw ls T x y) := by
 obtain ⟨i48, hi48, hx0, hx1, hx2⟩ := info_parts info48
 have hga : GoodB w0 a := by have := hx.nO; intro g hg; subst hg; exact this.2 g rfl
 have hgd : GoodB w0 d := by have := hy.nO; intro g hg; subst hg; exact this.2 g rfl
 obtain ⟨v0, hv0⟩ : ∃ v0, lkm T (a, d) = some v0 := Option.isSome_iff_exists.1 hin
 obtain ⟨k, e, rfl, hke, hel, hans⟩ := hsp _ _ hv0
 have hmt := hans x y hx hy hn
 obtain ⟨q, c, rfl, hps⟩ := own_slice h.own
 obtain ⟨W1, hW1⟩ : ∃ W1, W1 = w.alloc (.cells #[.pointer (a.bind at0), .pointer (d.bind at0)] 54) := ⟨_, rfl⟩
 have hb1 : Below w.heap.size w W1 := by rw [hW1]; exact (Below.refl _ _).alloc (Nat.le_refl _) _
 have hz1 : W1.heap.size = w.heap.size + 1 := by rw [hW1]; simp
 have h1 := h.step hb1
 have hB1 := hB.trans (hb1.mono hB.size)
 have e1 := look_run key71_ok Try.underlying78 W1 b T h1.tab (h1.gd.step hB1) (a, d) ⟨hga.step hB1, hgd.step hB1⟩ (zero81 W1) true
 rw [hv0] at e1
 simp only [if_true, Option.getD_some, Option.isSome_some, pairV, ptrB, spanV] at e1
 obtain ⟨W2, hW2⟩ : ∃ W2, W2 = (W1.alloc (.cells #[.int .i64 (k : Int), .int .i64 (e : Int)] 81)).drew := ⟨_, rfl⟩
 have hb2 : Below W1.heap.size W1 W2 := by rw [hW2]; exact ((Below.refl _ _).alloc (Nat.le_refl _) _).drew
 have h2 := h1.step hb2
 have hB2 := hB1.trans (hb2.mono hB1.size)
 have hsp2 : W2.heap[w.heap.size + 1]? = some (.cells #[.int .i64 (k : Int), .int .i64 (e : Int)] 81 (0, 0)) := by rw [hW2, ← hz1]; exact heap_new W1 _
 have hps2 := (hps.step hb1).step hb2
 obtain ⟨p', c', hsl, hpp⟩ := slice_mid25 i48 hi48 hx1 hps2 k e hke hel
 have hml : ((ls.drop k).take (e - k)).length = e - k := by simp; omega
 have hlm : e - k ≤ sizes x := by have := mt_len hmt; omega
 obtain ⟨v', W3, hap, hown, hgr⟩ := run_append_ps W2 NB 25 25 48 i48 _ 16 Try.underlying25 hi48 hx0 hx1 hx2 rfl _ _ _ h2.own p' (e - k) c' _ hpp (by unfold maxLen; omega) (by omega) h2.nb
 have hown' : OwnP 48 W3 NB v' (ls ++ (ls.drop k).take (e - k)) := by
  unfold OwnP
  rw [pcells_append, List.length_append, hml]; exact hown
 obtain ⟨q', c2, hv', _⟩ := own_slice hown'
 subst hv'
 obtain ⟨hfin, hlc, hgf⟩ := h2.longer hown' hgr
 have HF := Lib.hid (show GatPost w0 w NB b cm cl cw ls T x y (.returned (.tuple #[])) (W3.setCell ⟨cl, 0, none⟩ (.slice q' (ls ++ (ls.drop k).take (e - k)).length c2)) from
  ⟨rfl, _, T, by rw [hmt]; exact hfin, SNew.refl _ _ _, ((Gf.of hb1 (by have := h.lo; have := h.nb; omega)).trans (Gf.of hb2 (by have := h1.lo; have := h1.nb; omega))).trans hgf⟩)
 have m0 : W1.cell? ⟨cm, 0, none⟩ = some (.map (some b)) := (cellH h1.mapc 0).trans rfl
 have l0 : W2.cell? ⟨cl, 0, none⟩ = some (.slice q ls.length c) := (cellH h2.links 0).trans rfl
 have t0 : W2.cell? ⟨w.heap.size + 1, 0, none⟩ = some (.int .i64 (k : Int)) := (cellH hsp2 0).trans rfl
 have t1 : W2.cell? ⟨w.heap.size + 1, 1, none⟩ = some (.int .i64 (e : Int)) := (cellH hsp2 1).trans rfl
 have l3 : W3.cell? ⟨cl, 0, none⟩ = some (.slice q ls.length c) := (cellH hlc 0).trans rfl
 have f3 : W3.frozen? ⟨cl, 0, none⟩ = false := frozenH hlc 0
 clear h h1 h2 hB hB1 hB2 hx hy hok hsp hn hl hin hga hgd hv0 hke hel hans hmt hps hps2 hpp hml hlm hown hown' hgr hfin hlc hgf hsp2 hb1 hb2
 generalize (ls ++ (ls.drop k).take (e - k)).length = n2 at *
 generalize e - k = m at *
 subst hW2
 rw [hz1] at *
 subst hW1
 go_enter Try.func38, Try.ntmps38
 go_wp2_with fail
 go_region_law (refine step_append_run (by rfl) (.tmp 20) (.tmp 26) 25 (by rfl) (.slice q ls.length c) (.slice p' m c') _ _ (by simp [Act.eval, Act.put]) (by simp [Act.eval, Act.put]) hap ?_)
 all_goals (go_wp2_with fail; go_end0; exact HF.out)
end Go.Proofs.Ytagkpcnedccaiaa
