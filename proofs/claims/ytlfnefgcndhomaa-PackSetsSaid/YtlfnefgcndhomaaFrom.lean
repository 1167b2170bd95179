/-
  's[k:]' of a slice that reads as a list.
-/
import Derived.Test.YtlfnefgcndhomaaBase
import Derived.WalkSpells
namespace Go.Proofs.Ytlfnefgcndhomaa
open Go.RowKit
set_option linter.unusedVariables false

theorem slice_from {α : Type} {mk : α → Value} {w : World} {p : Option Addr} {n c : Nat} {l : List α} (T E : TypeId) (i : TypeInfo) (hT : Try.prog.underlying T = some (.slice E)) (hi : Try.prog.info? E = some i) (hs : i.size = 1) (h : In mk w p n c l) (k : Nat) (hk : k ≤ n) :
    ∃ p', (∀ w, (Instr.slice T (.slice p n c) (some (.int .i64 (k : Int))) none none).run Try.prog w = .ok (.slice p' (n - k) (c - k)) w) ∧ In mk w p' (n - k) (c - k) (l.drop k) := by
  refine ⟨if c = k then p else p.map (fun x => x.add k), fun w => ?_, ?_⟩
  · have hc : n ≤ c ∨ n = 0 := by
      rcases h.2 with h0 | ⟨b, off, _, hc, _⟩
      · exact .inr h0
      · exact .inl hc
    have hkc : k ≤ c := by omega
    simp [Instr.slice, run_underlying hT, Instr.sliceBounds, Instr.sliceBound, asIntOf, sizeOf, typeInfo, hi, hs, hk, go_sem]
  · obtain ⟨hn, h0 | ⟨b, off, rfl, hc, hb, hat⟩⟩ := h
    · refine ⟨by simp [hn], .inl (by omega)⟩
    · by_cases hck : c = k
      · rw [if_pos hck]
        exact ⟨by simp [hn], .inl (by omega)⟩
      · rw [if_neg hck]
        have := In.drop hn hc hb hat k hk
        have ha : Option.map (fun x : Addr => x.add k) (some (⟨b, off, none⟩ : Addr)) = some ⟨b, off + k, none⟩ := by
          simp only [Option.map_some, Option.some.injEq]
          unfold Addr.add; split <;> simp_all
        rw [ha]
        exact this
end Go.Proofs.Ytlfnefgcndhomaa
