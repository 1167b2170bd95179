/-
  Which key is the first that stands ahead of it, too (Twice).
-/
import Derived.Test.YtpgmlagkpigdjaaKys
namespace Go.Proofs.Ytpgmlagkpigdjaa
open Go.RowKit
set_option maxRecDepth 20000
set_option linter.unusedVariables false
set_option linter.unusedSimpArgs false

section
variable {α : Type} [DecidableEq α] {kt : TypeId} {kv : α → Value} {G : World → α → Prop}
theorem modify_born (es : Array MapEntry) (i : Nat) (f : MapEntry → MapEntry) (hf : ∀ e, (f e).born = e.born) : (es.modify i f).toList.map (·.born) = es.toList.map (·.born) := by
  apply List.ext_getElem?
  intro j
  simp only [List.getElem?_map, Array.getElem?_toList, Array.getElem?_modify]
  by_cases hij : i = j
  · subst hij
    cases he : es[i]? with
    | none => simp
    | some e => simp [hf e]
  · simp [hij]
theorem store_run (w : World) (mt : TypeId) (b : Nat) (es : Array MapEntry) (clock : Nat) (j : Nat) (e : MapEntry) (v : Value) (hb : w.heap[b]? = some (.map es clock)) (hs : (es.toList.map (·.born)).Nodup) (hj : es[j]? = some e) :
    (Instr.entryStore mt (.map (some b)) (goInt e.born) v).run Try.prog w = .ok () { w with heap := w.heap.setIfInBounds b (.map (es.modify j fun x => { x with val := v }) clock) } := by
  have hidx : es.findIdx? (fun x => (x.born : Int) == (e.born : Int)) = some j := by
    rw [Array.findIdx?_eq_some_iff_getElem]
    obtain ⟨hjl, hje⟩ := Array.getElem?_eq_some_iff.1 hj
    refine ⟨hjl, by simp [hje], fun i hi => ?_⟩
    simp only [beq_iff_eq, Int.natCast_inj]
    intro hc
    have hil : i < es.size := by omega
    have h1 : (es.toList.map (·.born))[i]? = some e.born := by simp [hil, hc]
    have h2 : (es.toList.map (·.born))[j]? = some e.born := by simp [hjl, hje]
    have : i = j := (List.getElem?_inj (by simpa using hil) hs).1 (h1.trans h2.symm)
    omega
  simp [Instr.entryStore, MapKept.run_getObj_map hb, goInt, asInt, asIntOf, Result.andThen, hidx, MapKept.run_setObj_map _ hb]
/-- m[k] op= v: the entry is laid, then its value is stored. -/
theorem entry_run (K : KeyOK kt kv G) {mt et : TypeId} {z : Value} (hm : Try.prog.underlying mt = some (.map kt et)) (w : World) (b : Nat) (l : List (α × Value)) (h : MapV kv w b l) (hg : ∀ x ∈ l, G w x.1) (a : α) (ha : G w a) (hz : (zeroValue et).run Try.prog w = .ok z w) (v : Value) :
    ∃ st w1 w2, (Instr.mapEntry mt (.map (some b)) (kv a)).run Try.prog w = .ok (.tuple #[(lkm l a).getD z, st]) w1 ∧ MapTo kv w w1 b (upm l a ((lkm l a).getD z)) ∧ (Instr.entryStore mt (.map (some b)) st v).run Try.prog w1 = .ok () w2 ∧ MapTo kv w w2 b (upm l a v) := by
  obtain ⟨es, clock, hb, hl, hs⟩ := h
  rcases find_key K w a ha es.toList l hl hg with ⟨h1, h2, h3⟩ | ⟨j, e, v0, h1, h2, h3, h4, h5, h6⟩
  · obtain ⟨k1, k2, k3⟩ := set_to (o' := .map (es.push { key := kv a, val := z, born := clock }) (clock + 1)) hb
    have hs1 := MapKept.stamped_push (key := kv a) (val := z) hs (keys_fresh K hl h2)
    have hj : (es.push { key := kv a, val := z, born := clock } : Array MapEntry)[es.size]? = some { key := kv a, val := z, born := clock } := by simp
    have hst := store_run _ mt b _ _ es.size _ v k2 hs1.2.1 hj
    obtain ⟨q1, q2, q3⟩ := set_to (o' := .map ((es.push { key := kv a, val := z, born := clock } : Array MapEntry).modify es.size fun x => { x with val := v }) (clock + 1)) k2
    refine ⟨goInt clock, _, _, ?_, ⟨⟨_, _, k2, by rw [h1]; exact push_list clock hl h2, hs1⟩, k1, k3⟩, hst, ⟨⟨_, _, q2, ?_, ?_⟩, kp_trans k1 q1, fun N W hN hB => q3 N W hN (k3 N W hN hB)⟩⟩
    · simp [Instr.mapEntry, run_underlying hm, MapKept.run_getObj_map hb, K.check, h3, hz, MapKept.run_setObj_map _ hb, Result.andThen, h1]
    · have hp : (es.push { key := kv a, val := z, born := clock } : Array MapEntry).modify es.size (fun x => { x with val := v }) = es.push { key := kv a, val := v, born := clock } := by
        apply Array.ext_getElem?
        intro i
        rw [Array.getElem?_modify]
        by_cases hi : es.size = i
        · subst hi; simp
        · rw [if_neg hi]
          simp only [Array.getElem?_push]
          rw [if_neg (fun e => hi e.symm), if_neg (fun e => hi e.symm)]
      rw [hp]
      exact push_list clock hl h2
    · exact MapKept.stamped_modify hs1 _ _ (fun _ _ => rfl) (fun _ _ _ => rfl)
  · have hj : es[j]? = some e := by simpa using h1
    obtain ⟨k1, k2, k3⟩ := set_to (o' := .map (es.modify j fun e => { e with key := kv a }) clock) hb
    have hs1 := MapKept.stamped_modify hs j (fun e => { e with key := kv a }) (fun _ _ => rfl) (fun e' _ he' => by rw [hj] at he'; cases he'; exact h3.symm)
    have hj1 : (es.modify j fun e => { e with key := kv a })[j]? = some { e with key := kv a } := by rw [Array.getElem?_modify, if_pos rfl, hj]; rfl
    have hst := store_run _ mt b _ _ j _ v k2 hs1.2.1 hj1
    obtain ⟨q1, q2, q3⟩ := set_to (o' := .map ((es.modify j fun e => { e with key := kv a }).modify j fun x => { x with val := v }) clock) k2
    have hn := keys_nodup K hl hs
    have hkey : (es.modify j fun e => { e with key := kv a }) = es := by
      apply Array.ext_getElem?
      intro i
      rw [Array.getElem?_modify]
      by_cases hi : j = i
      · subst hi; rw [if_pos rfl, hj, ← h3]; rfl
      · rw [if_neg hi]
    refine ⟨goInt e.born, _, _, ?_, ⟨⟨_, _, k2, ?_, hs1⟩, k1, k3⟩, hst, ⟨⟨_, _, q2, ?_, ?_⟩, kp_trans k1 q1, fun N W hN hB => q3 N W hN (k3 N W hN hB)⟩⟩
    · simp [Instr.mapEntry, run_underlying hm, MapKept.run_getObj_map hb, K.check, h6, hj, h3, bits_run K, MapKept.run_setObj_map _ hb, Result.andThen, h5]
    · rw [h5]
      exact modify_list _ (fun e' he' => by rw [hj] at he'; cases he'; exact ⟨rfl, h4⟩) hl h2 hn
    · rw [hkey]
      exact modify_list _ (fun e' he' => by rw [hj] at he'; cases he'; exact ⟨h3, rfl⟩) hl h2 hn
    · exact MapKept.stamped_modify hs1 _ _ (fun _ _ => rfl) (fun _ _ _ => rfl)
end
end Go.Proofs.Ytpgmlagkpigdjaa
