/-
  Open: all that is bound in parts, through an open, behind an environment.
-/
import Derived.Test.YtpgmlagkpigdjaaTbl
namespace Go.Proofs.Ytpgmlagkpigdjaa
open Go.RowKit
set_option maxRecDepth 20000
set_option linter.unusedVariables false
set_option linter.unusedSimpArgs false

def sv (via : Int) (b : Bi) : Bi := { b with via := via }
theorem via_bcells (v : Int) : ∀ (l : List Bi) (i : Nat) (b : Bi), l[i]? = some b → (bcells l).set (i * 6 + 3) (.int .i64 v) = bcells (l.set i (sv v b))
  | [], i, b, h => by simp at h
  | x :: t, 0, b, h => by
    simp only [List.getElem?_cons_zero, Option.some.injEq] at h
    subst h
    simp [bcells, Bi.cells, sv]
  | x :: t, i + 1, b, h => by
    simp only [List.getElem?_cons_succ] at h
    have ih := via_bcells v t i b h
    have e : ∀ (n : Nat) (u : Value) (ys : List Value), (x.cells ++ ys).set (n + 6) u = x.cells ++ ys.set n u := fun n u ys => by
      simp [Bi.cells]
    simp only [bcells, List.flatMap_cons, List.set_cons_succ] at ih ⊢
    rw [show (i + 1) * 6 + 3 = i * 6 + 3 + 6 by omega, e, ih]
structure ViaK (V M : List Bi) (via : Int) (k : Nat) : Prop where
  len : M.length = V.length
  get : ∀ i b, V[i]? = some b → M[i]? = some (if i < k then sv via b else b)
theorem via_end {V M : List Bi} {via : Int} (h : ViaK V M via V.length) : M = V.map (sv via) := by
  apply List.ext_getElem?
  intro i
  rw [List.getElem?_map]
  cases hv : V[i]? with
  | none =>
    have : V.length ≤ i := List.getElem?_eq_none_iff.1 hv
    rw [List.getElem?_eq_none (by rw [h.len]; exact this)]; rfl
  | some b =>
    have hi : i < V.length := (List.getElem?_eq_some_iff.1 hv).1
    rw [h.get i b hv, if_pos hi]; rfl
theorem via_next {V M : List Bi} {via : Int} {k : Nat} {b : Bi} (h : ViaK V M via k) (hb : V[k]? = some b) : ViaK V (M.set k (sv via b)) via (k + 1) := by
  refine ⟨by simp [h.len], fun i x hx => ?_⟩
  by_cases hi : k = i
  · subst hi
    rw [hb] at hx; cases hx
    have : k < M.length := by rw [h.len]; exact (List.getElem?_eq_some_iff.1 hb).1
    rw [List.getElem?_set_self this, if_pos (by omega)]
  · rw [List.getElem?_set_ne hi, h.get i x hx]
    by_cases h1 : i < k
    · rw [if_pos h1, if_pos (by omega)]
    · rw [if_neg h1, if_neg (by omega)]
set_option maxHeartbeats 8000000 in
theorem open9_any (w : World) (p pp : Option Addr) (l lp : List Bd) (via : Int) (h : EnvAt w p l) (hp : EnvAt w pp lp) (hn : l.length ≤ 400000) (hpn : lp.length ≤ 400000) :
    Calls Try.prog 9 #[.pointer p, .pointer pp, .int .i64 via] w (AndPost w l ((vis ((lp.map (·.bi)).reverse)).map (sv via))) := by
  have HA := Lib.hid (bound_any w pp lp hp (by omega))
  obtain ⟨V, hV⟩ : ∃ V, V = vis ((lp.map (·.bi)).reverse) := ⟨_, rfl⟩
  rw [← hV] at HA ⊢
  have HN : Hid (V.length ≤ 400000) := Lib.hid (by rw [hV]; have := visTo_len ((lp.map (·.bi)).reverse) ((lp.map (·.bi)).reverse).length; unfold vis; simp at this ⊢; omega)
  have HAND : Hid (∀ W v, Below w.heap.size w W → OwnB W w.heap.size v (V.map (sv via)) → Calls Try.prog 21 #[.pointer p, v] W (AndPost w l (V.map (sv via)))) := Lib.hid fun W v hW hv => by
    obtain ⟨q, n, c, rfl, hbs⟩ := hv.bs
    have hbn : n = (V.map (sv via)).length := hbs.1
    refine (and_any W p l q n c _ (h.step hW) hbs (by have := HN.out; rw [hbn]; simp; omega)).mono ?_
    rintro e w' ⟨p', new, h1, h2, h3, h4, h5⟩
    exact ⟨p', new, h1, h2, h3, fun b hb => Nat.le_trans hW.size (h4 b hb), hW.trans (h5.mono hW.size)⟩
  clear h hp hn hpn hV
  go_enter Try.func9, Try.ntmps9
  go_wp2_with (go_at_call 20; refine HA.out.mono ?_; rintro e w1 ⟨v, rfl, ho1, hb1⟩; have HO1 := Lib.hid ho1; have HB1 := Lib.hid hb1; have hsl := ho1.slice; have hbs := ho1.bs; obtain ⟨q, n, c, rfl, hbs⟩ := hbs; have HNL := Lib.hid hbs.1; have HSL := Lib.hid hsl; clear ho1 hb1 hbs hsl)
  have hn9 : n ≤ 400000 := by have := HN.out; have := HNL.out; omega
  go_loopw [13] (fun i wr => ∃ (k : Nat) (M : List Bi), k ≤ n ∧ i = .int .i64 k ∧ Hid (ViaK V M via k) ∧ Hid (OwnB wr w.heap.size (.slice q n c) M) ∧ Hid (Below w.heap.size w wr)) (fun i _ => n - (intOf i).toNat)
  case atStart => exact ⟨0, V, by omega, rfl, Lib.hid ⟨rfl, fun i b hb => by simpa using hb⟩, HO1, HB1⟩
  case round =>
    obtain ⟨k, M, hk, rfl, HV, HO, HB⟩ := hrel
    by_cases hlt : k < n
    · rcases HSL.out with ⟨he, _⟩ | ⟨g, c', he, hg0, hg, hc⟩
      · simp only [Value.slice.injEq] at he; omega
      simp only [Value.slice.injEq] at he
      obtain ⟨rfl, _, rfl⟩ := he
      obtain ⟨b, hb⟩ : ∃ b, V[k]? = some b := ⟨_, List.getElem?_eq_getElem (by have := HNL.out; omega)⟩
      have hM := HV.out.get k b hb
      rw [if_neg (by omega)] at hM
      have hml : M.length = n := by have := HV.out.len; have := HNL.out; omega
      have HO1 : OwnB wr w.heap.size (.slice (some ⟨g, 0, none⟩) M.length c) M := by rw [hml]; exact HO.out
      obtain ⟨x0, x1, x2, x3, x4, x5⟩ := HO1.at_ k b hM
      have fz := HO1.frozen (k * 6 + 3)
      have hst := (World.ownsRow.stored HO1 (k * 6 + 3) (.int .i64 via)).1
      rw [via_bcells via M k b hM, hml] at hst
      have HST : Hid (OwnB (wr.setCell ⟨g, k * 6 + 3, none⟩ (.int .i64 via)) w.heap.size (.slice (some ⟨g, 0, none⟩) n c) (M.set k (sv via b))) := Lib.hid (by unfold OwnB; rw [List.length_set, hml]; exact hst)
      have HVN := Lib.hid (via_next HV.out hb)
      have HBN : Hid (Below w.heap.size w (wr.setCell ⟨g, k * 6 + 3, none⟩ (.int .i64 via))) := Lib.hid (HB.out.setCell (by simpa using hg0) _)
      have r1 : (0 : Int) ≤ (k : Int) := by omega
      have r2 : (k : Int) < (n : Int) := by omega
      clear hb hM HO1 hst hml hg hc
      go_wp2_with fail
      go_roundw
      case rel => exact ⟨k + 1, _, by omega, by go_num, HVN, HST, HBN⟩
      case measure => simp [intOf]; omega
    · have hM : M = V.map (sv via) := via_end (by have := HV.out; rw [show k = V.length by have := HNL.out; omega] at this; exact this)
      subst hM
      have HC := Lib.hid (HAND.out wr _ HB.out HO.out)
      go_wp2_with (go_at_call 21; refine HC.out.mono ?_; rintro e w3 ⟨p', new, rfl, h2, h3, h4, h5⟩; have HP : Hid (AndPost w l (V.map (sv via)) (.returned (.pointer p')) w3) := Lib.hid ⟨p', new, rfl, h2, h3, h4, h5⟩; clear h2 h3 h4 h5)
      go_ret
      exact HP.out
end Go.Proofs.Ytpgmlagkpigdjaa
