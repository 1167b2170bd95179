/-
  edit.Sorted of no edits.
-/
import Derived.Test.YtficgilapbmmpaaSorted
namespace Go.Proofs.Ytficgilapbmmpaa
open Go.RowKit Go.Sem
set_option linter.unusedVariables false

theorem insert_nil (w : World) (p : Option Addr) (cap : Nat) :
    Calls Try.prog 48 #[.slice p 0 cap, .int .i64 0, .int .i64 0, .func (Fn.func 33) #[] #[]] w fun e w' => e = .returned (.tuple #[]) ∧ w = w' := by
  go_enter Try.func48, Try.ntmps48
  go_wp2_with fail
  refine wp_loop_rounds 1 ?_
  rw [rounds_succ]
  go_wp2_with fail
  go_end0
  exact ⟨rfl, rfl⟩
theorem stable_nil (w : World) (p : Option Addr) (cap : Nat) :
    Calls Try.prog 44 #[.slice p 0 cap, .int .i64 0, .func (Fn.func 33) #[] #[]] w fun e w' => e = .returned (.tuple #[]) ∧ w = w' := by
  go_enter Try.func44, Try.ntmps44
  go_wp2_with fail
  refine wp_loop_rounds 1 ?_
  rw [rounds_succ]
  go_wp2_with fail
  refine (insert_nil w p cap).mono ?_
  rintro e1 w1 ⟨rfl, rfl⟩
  go_wp2_with fail
  refine wp_loop_rounds 1 ?_
  rw [rounds_succ]
  go_wp2_with fail
  go_end0
  exact ⟨rfl, rfl⟩
theorem sortStable_nil (w : World) (p : Option Addr) (cap : Nat) :
    Calls Try.prog 32 #[.slice p 0 cap, .func (Fn.func 33) #[] #[]] w fun e w' => e = .returned (.tuple #[]) ∧ w = w' := by
  go_enter Try.func32, Try.ntmps32
  go_wp2_with fail
  refine (stable_nil w p cap).mono ?_
  rintro e w1 ⟨rfl, rfl⟩
  go_wp2_with fail
  go_end0
  exact ⟨rfl, rfl⟩

theorem clone_empty (a : Addr) (c : Nat) (w : World) :
    Calls Try.prog 30 #[.slice (some a) 0 c] w fun e w' => ∃ p c', e = .returned (.slice p 0 c') ∧ Below w.heap.size w w' := by
  obtain ⟨i0, hi0, hy0, hy1, hy2⟩ := info_parts info55
  have q22 : ∀ (w : World) (a : Option Addr) (n c n' c' : Nat), (binOp .eql 22 (.slice a n c) (.slice none n' c')).run Try.prog w = .ok (.bool a.isNone) w := fun w a n c n' c' => Lib.run_eql_slice_nil w _ _ a n c n' c' Try.underlying22
  go_enter Try.func30, Try.ntmps30
  go_wp2_with (at_builtin; refine wpList_append_own _ rfl _ _ 22 rfl w.heap.size 55 i0 (.agg #[.int .i64 0, .int .i64 0, .string ByteArray.empty]) 3 32 Try.underlying22 hi0 hy0 hy1 hy2 rfl (by omega) _ 0 [] rfl (World.ownsRow_made w #[] 0 (Nat.le_refl _) (Nat.zero_le _) rfl) a 0 c [] rfl ?qc1 ?qc2 ?qc3 ?qc4 ?qc5 ?qc6 ?_)
  case qc1 => rfl
  case qc2 => intro j u h; simp at h
  case qc3 => intro u h; simp at h
  case qc4 => unfold maxLen; omega
  case qc5 => omega
  case qc6 => simp
  intro v' w1 hown hgrow hnil
  have hbl : Below w.heap.size w w1 := ((Below.refl _ w).alloc (Nat.le_refl _) _).grown hgrow (by simp) (by intro k hk; simp [Value.ownBlock] at hk; omega)
  have HBL := Lib.hid hbl
  have hv : ∃ p c', v' = .slice p 0 c' := by
    rcases hown.2 with ⟨h0, _⟩ | ⟨g', c', cur, hv, _⟩
    · exact ⟨none, 0, h0⟩
    · exact ⟨_, _, hv⟩
  clear hown hgrow hnil hbl
  obtain ⟨p, c', rfl⟩ := hv
  go_wp2_with fail
  go_ret
  exact ⟨p, c', rfl, HBL.out⟩
theorem clone_zero (p : Option Addr) (c : Nat) (w : World) :
    Calls Try.prog 30 #[.slice p 0 c] w fun e w' => ∃ p c', e = .returned (.slice p 0 c') ∧ Below w.heap.size w w' := by
  cases p with
  | none =>
    refine (clone_nil 0 c w).mono ?_
    rintro e w' ⟨rfl, rfl⟩
    exact ⟨none, 0, rfl, Below.refl _ _⟩
  | some a => exact clone_empty a c w

theorem sorted_none (p : Option Addr) (cap : Nat) (w : World) :
    Calls Try.prog 17 #[.slice p 0 cap] w fun e w' => ∃ q c, e = .returned (.slice q 0 c) ∧ Below w.heap.size w w' := by
  go_enter Try.func17, Try.ntmps17
  go_wp2_with (go_at_call 30; refine (clone_zero p cap _).mono ?_; rintro e w1 ⟨q, c, rfl, hbl⟩)
  refine wp_loop_rounds 1 ?_
  rw [rounds_succ]
  go_wp2_with fail
  refine (sortStable_nil w1 q c).mono ?_
  rintro e w2 ⟨rfl, rfl⟩
  go_wp2_with fail
  go_ret
  exact ⟨q, c, rfl, hbl⟩

/-- edit.Sorted: as many edits, in order, in a row of its own. -/
theorem sorted_any (p : Option Addr) (n cap : Nat) (l : List Ed) (w : World) (h : EditsIn w p n cap l) (hm : n ≤ 60) (ht : ∀ i, (h : i < l.length) → l[i].t.size ≤ 100000) :
    Calls Try.prog 17 #[.slice p n cap] w fun e w' => ∃ q c, e = .returned (.slice q n c) ∧ EditsIn w' q n c (ssort l) ∧ Below w.heap.size w w' := by
  obtain ⟨rfl, h0⟩ := h
  by_cases hl : 0 < l.length
  · rcases h0 with h0 | ⟨b, off, rfl, hcap, hb, hat⟩
    · omega
    · refine (sorted_some l b off cap w hat hb hcap hm hl ht).mono ?_
      rintro e w' ⟨g, c, rfl, hgc, hwg, harr, hbl⟩
      have hgl := harr.lt
      obtain ⟨cur, _, _, hs⟩ := harr
      exact ⟨_, c, rfl, ⟨(ssort_length l).symm, .inr ⟨g, 0, rfl, hgc, hgl, hs⟩⟩, hbl⟩
  · have hz : l = [] := List.eq_nil_of_length_eq_zero (by omega)
    subst hz
    refine (sorted_none p cap w).mono ?_
    rintro e w' ⟨q, c, rfl, hbl⟩
    exact ⟨q, c, rfl, ⟨rfl, .inl rfl⟩, hbl⟩
end Go.Proofs.Ytficgilapbmmpaa
