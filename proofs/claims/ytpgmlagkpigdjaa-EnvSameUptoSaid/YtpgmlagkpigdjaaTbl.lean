/-
  The table of an environment, and Open.
-/
import Derived.Test.YtpgmlagkpigdjaaKys
namespace Go.Proofs.Ytpgmlagkpigdjaa
open Go.RowKit
set_option maxRecDepth 20000
set_option linter.unusedVariables false
set_option linter.unusedSimpArgs false

theorem visTo_last (l : List Bi) : ∀ k b, b ∈ visTo l k → ∃ i, i < k ∧ l[i]? = some b ∧ lastI l b.k l.length = some i
  | 0, b, h => by simp [visTo] at h
  | k + 1, b, h => by
    simp only [visTo, List.mem_append] at h
    rcases h with h | h
    · obtain ⟨i, h1, h2⟩ := visTo_last l k b h
      exact ⟨i, by omega, h2⟩
    · split at h
      · rename_i y hy
        split at h
        · rename_i hl
          simp only [List.mem_singleton] at h; subst h
          exact ⟨k, by omega, hy, hl⟩
        · cases h
      · cases h
theorem visTo_nodup (l : List Bi) : ∀ k, ((visTo l k).map (·.k)).Nodup
  | 0 => by simp [visTo]
  | k + 1 => by
    have ih := visTo_nodup l k
    simp only [visTo]
    split
    · rename_i y hy
      split
      · rename_i hl
        rw [List.map_append]
        refine List.nodup_append.2 ⟨ih, by simp, ?_⟩
        intro a ha b hb e
        simp only [List.map_cons, List.map_nil, List.mem_singleton] at hb
        obtain ⟨z, hz, rfl⟩ := List.mem_map.1 ha
        obtain ⟨i, hi, _, h3⟩ := visTo_last l k z hz
        rw [e, hb, hl] at h3
        have := Option.some.inj h3
        omega
      · simpa using ih
    · simpa using ih
theorem lastI_prefix (a b : List Bi) (key : Ky) : ∀ k, k ≤ a.length → lastI (a ++ b) key k = lastI a key k
  | 0, _ => rfl
  | k + 1, h => by
    simp only [lastI]
    rw [List.getElem?_append_left (by omega), lastI_prefix a b key k (by omega)]
theorem look_last (key : Ky) : ∀ L : List Bd, (look L key).map (·.bi) = (lastI ((L.map (·.bi)).reverse) key L.length).bind (fun j => ((L.map (·.bi)).reverse)[j]?)
  | [] => rfl
  | x :: r => by
    have ih := look_last key r
    simp only [look, List.find?_cons, List.map_cons, List.reverse_cons, List.length_cons, lastI] at ih ⊢
    have hn : (((r.map (·.bi)).reverse ++ [x.bi])[r.length]?) = some x.bi := by
      rw [List.getElem?_append_right (by simp)]; simp
    rw [hn]
    by_cases hx : x.k = key
    · simp only [hx, decide_true, Option.map_some, if_true, Option.bind_some]
      rw [hn]
    · simp only [hx, decide_false, Option.map_some, Option.some.injEq, if_false]
      rw [lastI_prefix _ _ _ _ (by simp)]
      rw [ih]
      cases hc : lastI ((r.map (·.bi)).reverse) key r.length with
      | none => rfl
      | some j =>
        have hj := (lastI_some hc).1
        simp only [Option.bind_some]
        rw [List.getElem?_append_left (by simpa using hj)]
/-- What is bound is found. -/
theorem look_vis (L : List Bd) (b : Bi) (h : b ∈ vis ((L.map (·.bi)).reverse)) : ∃ x, look L b.k = some x ∧ x.bi = b := by
  obtain ⟨i, hi, h2, h3⟩ := visTo_last _ _ b h
  have hl := look_last b.k L
  rw [show L.length = ((L.map (·.bi)).reverse).length by simp, h3] at hl
  simp only [Option.bind_some, h2] at hl
  cases hx : look L b.k with
  | none => rw [hx] at hl; cases hl
  | some x => rw [hx] at hl; exact ⟨x, rfl, by simpa using hl⟩
def itV (b : Bi) : Value := .agg #[.int .i64 b.dc, .int .i64 b.via, .pointer b.pa, .pointer b.pm]
def tabL (V : List Bi) : List (Ky × Value) := V.map (fun b => (b.k, itV b))
theorem tabL_snoc (V : List Bi) (b : Bi) (h : b.k ∉ V.map (·.k)) : upm (tabL V) b.k (itV b) = tabL (V ++ [b]) := by
  unfold upm tabL
  rw [if_neg (by simpa [Function.comp_def] using h)]
  simp
theorem tabL_look {V : List Bi} (hn : (V.map (·.k)).Nodup) {b : Bi} (hb : b ∈ V) : lkm (tabL V) b.k = some (itV b) := by
  induction V with
  | nil => cases hb
  | cons x r ih =>
    simp only [List.map_cons, List.nodup_cons] at hn
    simp only [tabL, List.map_cons, lkm, List.find?_cons] at ih ⊢
    rcases List.mem_cons.1 hb with rfl | hb
    · simp
    · have hne : ¬ x.k = b.k := fun e => hn.1 (List.mem_map.2 ⟨b, hb, e.symm⟩)
      simp only [hne, decide_false]
      exact ih hn.2 hb
def TabPost (w : World) (V : List Bi) (e : Ending) (w' : World) : Prop := ∃ tb, e = .returned (.map (some tb)) ∧ MapV keyV w' tb (tabL V) ∧ Below w.heap.size w w'
set_option maxHeartbeats 8000000 in
theorem table_any (w : World) (p : Option Addr) (l : List Bd) (h : EnvAt w p l) (hn : l.length ≤ 900000) : Calls Try.prog 26 #[.pointer p] w (TabPost w (vis ((l.map (·.bi)).reverse))) := by
  have hmm := @run_makeMap Try.prog
  have hB0 : Below w.heap.size w (w.alloc (.map #[] 0)) := (Below.refl _ _).alloc (Nat.le_refl _) _
  have HA := Lib.hid (bound_any (w.alloc (.map #[] 0)) p l (h.step hB0) hn)
  have HM0 : Hid (MapV keyV (w.alloc (.map #[] 0)) w.heap.size []) := Lib.hid (MapV.made w)
  have HB0 := Lib.hid hB0
  obtain ⟨L, hL⟩ : ∃ L, L = vis ((l.map (·.bi)).reverse) := ⟨_, rfl⟩
  have HND : Hid ((L.map (·.k)).Nodup) := Lib.hid (by rw [hL]; exact visTo_nodup _ _)
  rw [← hL] at HA ⊢
  have HN : Hid (L.length ≤ 900000) := Lib.hid (by rw [hL]; have := visTo_len ((l.map (·.bi)).reverse) ((l.map (·.bi)).reverse).length; unfold vis; simp at this ⊢; omega)
  clear h hn hL hB0
  go_enter Try.func26, Try.ntmps26
  go_wp2_with (go_at_call 20; refine HA.out.mono ?_; rintro e w1 ⟨v, rfl, ho1, hb1⟩; have HB1 := Lib.hid (HB0.out.trans (hb1.mono HB0.out.size)); obtain ⟨q, n, c, rfl, hbs⟩ := ho1.bs; have HBS := Lib.hid hbs; have HM1 := Lib.hid (HM0.out.step hb1); clear ho1 hb1 hbs)
  obtain ⟨hnl, _⟩ := HBS.out
  have hn9 : n ≤ 900000 := by have := HN.out; omega
  have HNL := Lib.hid hnl
  have HBS1 : Hid (∀ W, Kp w.heap.size w1 W → BS W q n c L) := Lib.hid fun W hW => by
    obtain ⟨h1, h0 | ⟨g, hq, hc, hg, hat⟩⟩ := HBS.out
    · exact ⟨h1, .inl h0⟩
    · by_cases hgm : g = w.heap.size
      · refine ⟨h1, .inl ?_⟩
        rcases Nat.eq_zero_or_pos n with h0 | h0
        · exact h0
        · obtain ⟨b, hb⟩ : ∃ b, L[0]? = some b := ⟨_, List.getElem?_eq_getElem (by omega)⟩
          have c0 := (hat 0 b hb).c0
          obtain ⟨es, ck, hm, _⟩ := HM1.out
          rw [hgm] at c0
          simp [World.cell?, hm] at c0
      · refine ⟨h1, .inr ⟨g, hq, hc, Nat.lt_of_lt_of_le hg hW.size, fun i b hi => ?_⟩⟩
        have hh := hat i b hi
        have hbk := hW.blk g hg hgm
        exact ⟨(World.cell?_of_block hbk).trans hh.c0, (World.cell?_of_block hbk).trans hh.c1, (World.cell?_of_block hbk).trans hh.c2, (World.cell?_of_block hbk).trans hh.c3, (World.cell?_of_block hbk).trans hh.c4, (World.cell?_of_block hbk).trans hh.c5⟩
  clear hnl
  go_loopw [10] (fun i wr => ∃ k : Nat, k ≤ n ∧ i = .int .i64 k ∧ Hid (MapV keyV wr w.heap.size (tabL (L.take k))) ∧ Hid (Kp w.heap.size w1 wr) ∧ Hid (Below w.heap.size w wr)) (fun i _ => n - (intOf i).toNat)
  case atStart => exact ⟨0, by omega, rfl, by simpa [tabL] using HM1, Lib.hid (kp_refl _ _), HB1⟩
  case round =>
    obtain ⟨k, hk, rfl, HM, HK, HB⟩ := hrel
    by_cases hlt : k < n
    · obtain ⟨hn1, h0 | ⟨gb, rfl, hcb, hgb, hat⟩⟩ := HBS1.out wr HK.out
      · omega
      obtain ⟨b, hb⟩ : ∃ b, L[k]? = some b := ⟨_, List.getElem?_eq_getElem (by omega)⟩
      obtain ⟨v0, v1, v2, v3, v4, v5⟩ := hat k b hb
      have HTB : Hid (upm (tabL (L.take k)) b.k (itV b) = tabL (L.take (k + 1))) := Lib.hid (by
        rw [tabL_snoc _ _ ?_, List.take_add_one, hb]; rfl
        have hnd := HND.out
        intro hm
        rw [List.map_take] at hm
        have hkl : k < (L.map (·.k)).length := by simp; omega
        obtain ⟨i, hi, he⟩ := List.getElem_of_mem hm
        have hik : i < k := by simp at hi; omega
        have h1 : (L.map (·.k))[i]? = some b.k := by
          rw [List.getElem_take] at he
          rw [List.getElem?_eq_getElem (by omega), he]
        have h2 : (L.map (·.k))[k]? = some b.k := by rw [List.getElem?_map, hb]; rfl
        have := (List.getElem?_inj (by omega) hnd).1 (h1.trans h2.symm)
        omega)
      have r1 : (0 : Int) ≤ (k : Int) := by omega
      have r2 : (k : Int) < (n : Int) := by omega
      have hbz := HB.out.size
      have hkz := HK.out.size
      clear hat hb hn1
      simp only [at0]
      go_wp2_with (first
        | (at_mapUpdate; refine wpList_upd _ rfl _ _ _ 64 rfl key31_ok Try.underlying64 w.heap.size (tabL (L.take k)) rfl (HM.out.step ((Below.refl _ _).alloc (Nat.le_refl _) _)) (fun _ _ => trivial) b.k trivial rfl (itV b) rfl ?_; intro w3 hto; have HTO := Lib.hid hto; clear hto)
        | go_in)
      go_roundw
      case rel => exact ⟨k + 1, by omega, by go_num, Lib.hid (by rw [← HTB.out]; exact HTO.out.map), Lib.hid (kp_trans HK.out (kp_trans ⟨((Below.refl _ _).alloc (Nat.le_refl _) _).size, fun j hj _ => ((Below.refl wr.heap.size wr).alloc (Nat.le_refl _) _).block j hj⟩ HTO.out.kp)), Lib.hid (HTO.out.bel _ _ (Nat.le_refl _) (HB.out.alloc hbz _))⟩
      case measure => simp [intOf]; omega
    · have hkn : k = n := by omega
      have HF : Hid (MapV keyV wr w.heap.size (tabL L)) := Lib.hid (by have := HM.out; rw [hkn, HNL.out, List.take_length] at this; exact this)
      clear hkn HM
      go_wp2_with fail
      go_ret
      exact ⟨_, rfl, HF.out, HB.out⟩
end Go.Proofs.Ytpgmlagkpigdjaa
