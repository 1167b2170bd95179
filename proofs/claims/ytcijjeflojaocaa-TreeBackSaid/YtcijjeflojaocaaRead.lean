/-
  What is read of a tree: Len, Knot, Names, Deep; and of no number.
-/
import Derived.Test.YtcijjeflojaocaaMake
import Derived.ScopeJumps
import Derived.WalkMore
namespace Go.Proofs.Ytcijjeflojaocaa
open Go.RowKit
set_option linter.unusedVariables false
set_option linter.unusedSimpArgs false

theorem jump_mono {l : Nat} {J J' : Act → World → Prop} {Q : Exit → Act → World → Prop} (h : ∀ a w, J a w → J' a w) : ∀ e a w, Exit.jump l J Q e a w → Exit.jump l J' Q e a w := by
  intro e a w he
  cases e <;> first | exact he | exact ⟨he.1, h _ _ he.2⟩
theorem wp_scope_label3 {P : Program} {a : Act} {w : World} {Q : Exit → Act → World → Prop} {A B C rest : Code} (l : Nat) (J : Act → World → Prop) (μ : Act → World → Nat)
    (hf : findLabel (A.seq (B.seq (C.seq ((Code.label l).seq rest)))) l = some (Code.skip.seq rest))
    (h0 : A.wp P (Exit.then (fun a w => B.wp P (Exit.then (fun a w => C.wp P (Exit.then J (Exit.jump l J Q)) a w) (Exit.jump l J Q)) a w) (Exit.jump l J Q)) a w)
    (pass : ∀ a w, J a w → rest.wp P (Exit.jump l (fun a' w' => J a' w' ∧ μ a' w' < μ a w) Q) a w) : (Code.scope (A.seq (B.seq (C.seq ((Code.label l).seq rest))))).wp P Q a w := by
  refine wp_scope_jumps l J μ hf ?_ (fun a w h => wp_seq (wp_skip (pass a w h)))
  refine wp_seq (wp_mono h0 ?_)
  intro e a w h
  cases e with
  | normal =>
    refine wp_seq (wp_mono h ?_)
    intro e a w h
    cases e with
    | normal =>
      refine wp_seq (wp_mono h ?_)
      intro e a w h
      cases e with
      | normal => exact wp_seq (wp_label (wp_mono (pass a w h) (jump_mono fun _ _ h => h.1)))
      | _ => exact h
    | _ => exact h
  | _ => exact h

theorem len_any {T g c : Nat} {l : List Kn} (w : World) (h : Arena w T g c l) : Calls Try.prog 12 #[.pointer (some ⟨T, 0, none⟩)] w fun e w' => e = .returned (.int .i64 (l.length : Int)) ∧ w = w' := by
  obtain ⟨h1, _⟩ := h
  have q28 : ∀ (w : World) (a : Addr), (binOp .eql 28 (.pointer (some a)) (.pointer none)).run Try.prog w = .ok (.bool false) w := fun w a => by kernel_rfl
  go_enter Try.func12, Try.ntmps12
  go_wp2
  go_ret
  exact ⟨rfl, rfl⟩
theorem len_nil (w : World) : Calls Try.prog 12 #[.pointer none] w fun e w' => e = .returned (.int .i64 0) ∧ w = w' := by
  go_enter Try.func12, Try.ntmps12
  go_wp2
  go_ret
  exact ⟨rfl, rfl⟩
theorem has_nil (n : Int) (w : World) : Calls Try.prog 34 #[.pointer none, .int .i64 n] w fun e w' => e = .returned (.bool false) ∧ w = w' := by
  go_enter Try.func34, Try.ntmps34
  go_wp2
  go_ret
  exact ⟨rfl, rfl⟩
theorem has_yes {T g c : Nat} {l : List Kn} (k : Nat) (w : World) (h : Arena w T g c l) (hk : k < l.length) : Calls Try.prog 34 #[.pointer (some ⟨T, 0, none⟩), .int .i64 k] w fun e w' => e = .returned (.bool true) ∧ w = w' := by
  obtain ⟨h1, _⟩ := h
  have q28 : ∀ (w : World) (a : Addr), (binOp .neq 28 (.pointer (some a)) (.pointer none)).run Try.prog w = .ok (.bool true) w := fun w a => by kernel_rfl
  have hk1 : (0 : Int) ≤ (k : Int) := by omega
  have hk2 : (k : Int) < (l.length : Int) := by omega
  go_enter Try.func34, Try.ntmps34
  go_wp2
  go_ret
  exact ⟨rfl, rfl⟩
theorem has_no {T g c : Nat} {l : List Kn} (n : Int) (w : World) (h : Arena w T g c l) (hn : n < 0 ∨ (l.length : Int) ≤ n) : Calls Try.prog 34 #[.pointer (some ⟨T, 0, none⟩), .int .i64 n] w fun e w' => e = .returned (.bool false) ∧ w = w' := by
  obtain ⟨h1, _⟩ := h
  have q28 : ∀ (w : World) (a : Addr), (binOp .neq 28 (.pointer (some a)) (.pointer none)).run Try.prog w = .ok (.bool true) w := fun w a => by kernel_rfl
  by_cases h0 : n < 0
  · have h2 : ¬ (0 : Int) ≤ n := by omega
    clear hn
    go_enter Try.func34, Try.ntmps34
    go_wp2
    go_ret
    exact ⟨rfl, rfl⟩
  · have h2 : (0 : Int) ≤ n := by omega
    have h3 : ¬ n < (l.length : Int) := by omega
    clear hn h0
    go_enter Try.func34, Try.ntmps34
    go_wp2
    go_ret
    exact ⟨rfl, rfl⟩

/-- There is no such number. -/
def NoNum (v : Value) (n : Int) (w : World) : Prop := ∀ w1, Below w.heap.size w w1 → Calls Try.prog 34 #[v, .int .i64 n] w1 fun e w' => e = .returned (.bool false) ∧ w1 = w'
theorem noNum_nil (n : Int) (w : World) : NoNum (.pointer none) n w := fun w1 _ => has_nil n w1
theorem noNum_of {T g c : Nat} {l : List Kn} {n : Int} {w : World} (h : Arena w T g c l) (hn : n < 0 ∨ (l.length : Int) ≤ n) : NoNum (.pointer (some ⟨T, 0, none⟩)) n w := fun w1 hb => has_no n w1 (h.step hb) hn
theorem NoNum.step {v : Value} {n : Int} {w w1 : World} (h : NoNum v n w) (hb : Below w.heap.size w w1) : NoNum v n w1 := fun w2 hb2 => h w2 (hb.trans (hb2.mono hb.size))

theorem names_no {v : Value} {n : Int} (w : World) (h : NoNum v n w) : Calls Try.prog 14 #[v, .int .i64 n] w fun e w' => e = .returned (.slice none 0 0) ∧ w = w' := by
  have H := Lib.hid (h w (Below.refl _ _))
  go_enter Try.func14, Try.ntmps14
  go_wp2_with fail
  refine H.out.mono ?_
  rintro e w1 ⟨rfl, rfl⟩
  go_wp2_with fail
  go_ret
  exact ⟨rfl, rfl⟩
theorem kids_no {v : Value} {n : Int} (w : World) (h : NoNum v n w) : Calls Try.prog 15 #[v, .int .i64 n] w fun e w' => e = .returned (.slice none 0 0) ∧ w = w' := by
  have H := Lib.hid (h w (Below.refl _ _))
  go_enter Try.func15, Try.ntmps15
  go_wp2_with fail
  refine H.out.mono ?_
  rintro e w1 ⟨rfl, rfl⟩
  go_wp2_with fail
  go_ret
  exact ⟨rfl, rfl⟩
theorem deep_no {v : Value} {n : Int} (w : World) (h : NoNum v n w) : Calls Try.prog 16 #[v, .int .i64 n] w fun e w' => e = .returned (.int .i64 0) ∧ w = w' := by
  have H := Lib.hid (h w (Below.refl _ _))
  go_enter Try.func16, Try.ntmps16
  go_wp2_with fail
  refine H.out.mono ?_
  rintro e w1 ⟨rfl, rfl⟩
  go_wp2_with fail
  go_ret
  exact ⟨rfl, rfl⟩
theorem walk_no {v : Value} {n : Int} (w : World) (h : NoNum v n w) : Calls Try.prog 17 #[v, .int .i64 n] w fun e w' => e = .returned (.slice none 0 0) ∧ w = w' := by
  have H := Lib.hid (h w (Below.refl _ _))
  go_enter Try.func17, Try.ntmps17
  go_wp2_with fail
  refine wp_scope_label3 0 (fun _ _ => False) (fun _ _ => 0) (by rfl) ?_ (fun _ _ h => h.elim)
  go_wp2_with fail
  refine H.out.mono ?_
  rintro e w1 ⟨rfl, rfl⟩
  go_wp2_with fail
  simp only [Exit.jump]
  go_ret
  exact ⟨rfl, rfl⟩
theorem path_no {v : Value} {n : Int} (w : World) (h : NoNum v n w) : Calls Try.prog 18 #[v, .int .i64 n] w fun e w' => e = .returned (.slice none 0 0) ∧ w = w' := by
  have H := Lib.hid (h w (Below.refl _ _))
  go_enter Try.func18, Try.ntmps18
  go_wp2_with fail
  go_loopw [1, 5] (fun i v5 wr => i = .int .i64 n ∧ v5 = .slice none 0 0 ∧ w = wr) (fun _ _ _ => 0)
  case atStart => exact ⟨rfl, rfl, rfl⟩
  case round =>
    obtain ⟨rfl, rfl, rfl⟩ := hrel
    go_wp2_with fail
    refine H.out.mono ?_
    rintro e w1 ⟨rfl, rfl⟩
    go_wp2_with fail
    go_ret
    exact ⟨rfl, rfl⟩
theorem knot_no {v : Value} {n : Int} (w : World) (h : NoNum v n w) : Calls Try.prog 13 #[v, .int .i64 n] w fun e w' => e = .returned (.tuple #[.agg #[.int .i64 0, .int .i64 0, .int .i64 0, .int .i64 0, .int .i64 0, .int .i64 0, .int .i64 0], .bool false]) ∧ Below w.heap.size w w' := by
  have H := Lib.hid (h (w.alloc (.cells #[.int .i64 0, .int .i64 0, .int .i64 0, .int .i64 0, .int .i64 0, .int .i64 0, .int .i64 0] 34)) ((Below.refl _ _).alloc (Nat.le_refl _) _))
  have HB : Hid (Below w.heap.size w (w.alloc (.cells #[.int .i64 0, .int .i64 0, .int .i64 0, .int .i64 0, .int .i64 0, .int .i64 0, .int .i64 0] 34))) := Lib.hid ((Below.refl _ _).alloc (Nat.le_refl _) _)
  clear h
  go_enter Try.func13, Try.ntmps13
  go_wp2_with fail
  refine H.out.mono ?_
  rintro e w1 ⟨rfl, rfl⟩
  go_wp2_with fail
  go_returns
  exact ⟨rfl, HB.out⟩
theorem branch_no {v : Value} {n : Int} (w : World) (h : NoNum v n w) : Calls Try.prog 20 #[v, .int .i64 n] w fun e w' => e = .returned (.agg #[.int .i64 0, .int .i64 0, .int .i64 0, .int .i64 0, .slice none 0 0, .slice none 0 0]) ∧ Below w.heap.size w w' := by
  have H := Lib.hid (h (w.alloc (.cells #[.int .i64 0, .int .i64 0, .int .i64 0, .int .i64 0, .slice none 0 0, .slice none 0 0] 25)) ((Below.refl _ _).alloc (Nat.le_refl _) _))
  have HB : Hid (Below w.heap.size w (w.alloc (.cells #[.int .i64 0, .int .i64 0, .int .i64 0, .int .i64 0, .slice none 0 0, .slice none 0 0] 25))) := Lib.hid ((Below.refl _ _).alloc (Nat.le_refl _) _)
  clear h
  go_enter Try.func20, Try.ntmps20
  go_wp2_with fail
  refine H.out.mono ?_
  rintro e w1 ⟨rfl, rfl⟩
  go_wp2_with fail
  go_returns
  exact ⟨rfl, HB.out⟩
theorem within_no {v : Value} (tok : Int) (w : World) (h : NoNum v 0 w) : Calls Try.prog 24 #[v, .int .i64 tok] w fun e w' => e = .returned (.int .i64 (-1)) ∧ w = w' := by
  have H := Lib.hid (h w (Below.refl _ _))
  go_enter Try.func24, Try.ntmps24
  go_wp2_with fail
  refine H.out.mono ?_
  rintro e w1 ⟨rfl, rfl⟩
  go_wp2_with fail
  go_ret
  exact ⟨rfl, rfl⟩

theorem names_yes {T g c : Nat} {l : List Kn} (k : Nat) (w : World) (h : Arena w T g c l) (hk : k < l.length) (hn : l[k].ns.length * 8 ≤ 140737488355328) :
    Calls Try.prog 14 #[.pointer (some ⟨T, 0, none⟩), .int .i64 k] w fun e w' => ∃ p' c', e = .returned (.slice p' l[k].ns.length c') ∧ In mkI w' p' l[k].ns.length c' l[k].ns ∧ (∀ a, p' = some a → w.heap.size ≤ a.block) ∧ Below w.heap.size w w' := by
  have H := Lib.hid (has_yes k w h hk)
  obtain ⟨h1, _, _, _, _, h6⟩ := h
  obtain ⟨p, n, cc, ⟨a0, a1, a2, a3, a4, a5, a6, a7, a8⟩, hin⟩ := h6 k hk
  have hnl := hin.1
  subst hnl
  have HC := Lib.hid (clone_any p _ cc _ w hin hn)
  have hk1 : (0 : Int) ≤ (k : Int) := by omega
  have hk2 : (k : Int) < (l.length : Int) := by omega
  clear h6 hin hn
  generalize l[k] = x at *
  go_enter Try.func14, Try.ntmps14
  go_wp2_with fail
  refine H.out.mono ?_
  rintro e w1 ⟨rfl, rfl⟩
  go_wp2_with fail
  refine HC.out.mono ?_
  rintro e w1 ⟨p', c', rfl, r⟩
  have R := Lib.hid r
  clear r
  go_wp2_with fail
  go_ret
  exact ⟨p', c', rfl, R.out⟩
theorem deep_yes {T g c : Nat} {l : List Kn} (k : Nat) (w : World) (h : Arena w T g c l) (hk : k < l.length) :
    Calls Try.prog 16 #[.pointer (some ⟨T, 0, none⟩), .int .i64 k] w fun e w' => e = .returned (.int .i64 l[k].deep) ∧ w = w' := by
  have H := Lib.hid (has_yes k w h hk)
  obtain ⟨h1, _, _, _, _, h6⟩ := h
  obtain ⟨p, n, cc, ⟨a0, a1, a2, a3, a4, a5, a6, a7, a8⟩, hin⟩ := h6 k hk
  have hk1 : (0 : Int) ≤ (k : Int) := by omega
  have hk2 : (k : Int) < (l.length : Int) := by omega
  clear h6 hin
  generalize l[k] = x at *
  go_enter Try.func16, Try.ntmps16
  go_wp2_with fail
  refine H.out.mono ?_
  rintro e w1 ⟨rfl, rfl⟩
  go_wp2_with fail
  go_ret
  exact ⟨rfl, rfl⟩
theorem knot_yes {T g c : Nat} {l : List Kn} (k : Nat) (w : World) (h : Arena w T g c l) (hk : k < l.length) :
    Calls Try.prog 13 #[.pointer (some ⟨T, 0, none⟩), .int .i64 k] w fun e w' => e = .returned (.tuple #[.agg #[.int .i64 l[k].k, .int .i64 l[k].m, .int .i64 l[k].f, .int .i64 l[k].t, .int .i64 l[k].up, .int .i64 l[k].first, .int .i64 l[k].next], .bool true]) ∧ Below w.heap.size w w' := by
  have hb1 : Below w.heap.size w (w.alloc (.cells #[.int .i64 0, .int .i64 0, .int .i64 0, .int .i64 0, .int .i64 0, .int .i64 0, .int .i64 0] 34)) := (Below.refl _ _).alloc (Nat.le_refl _) _
  have h' := h.step hb1
  have H := Lib.hid (has_yes k _ h' hk)
  obtain ⟨h1, _, _, h4, h5, h6⟩ := h'
  obtain ⟨p, n, cc, ⟨a0, a1, a2, a3, a4, a5, a6, a7, a8⟩, hin⟩ := h6 k hk
  have hk1 : (0 : Int) ≤ (k : Int) := by omega
  have hk2 : (k : Int) < (l.length : Int) := by omega
  have HB : Hid (∀ W, Below w.heap.size w W → Below w.heap.size w (W.alloc (.cells #[.int .i64 0, .int .i64 0, .int .i64 0, .int .i64 0, .int .i64 0, .int .i64 0, .int .i64 0] 34))) := Lib.hid fun W hW => hW.alloc hW.size _
  clear h6 hin h hb1
  generalize l[k] = x at *
  go_enter Try.func13, Try.ntmps13
  go_wp2_with fail
  refine H.out.mono ?_
  rintro e w1 ⟨rfl, rfl⟩
  go_wp2_with fail
  go_returns
  refine ⟨rfl, ?_⟩
  exact (Below.refl _ _).alloc (Nat.le_refl _) _
theorem Arena.top {w : World} {T g c : Nat} {l : List Kn} (h : Arena w T g c l) : w.cell? ⟨T, 0, none⟩ = some (.slice (some ⟨g, 0, none⟩) l.length c) := h.1
theorem Arena.next {w : World} {T g c : Nat} {l : List Kn} (h : Arena w T g c l) {k : Nat} {y : Int} (hy : l[k]?.map Kn.next = some y) : k < l.length ∧ w.cell? ⟨g, k * 9 + 6, none⟩ = some (.int .i64 y) := by
  obtain ⟨x, hx, rfl⟩ := Option.map_eq_some_iff.1 hy
  obtain ⟨hm, rfl⟩ := List.getElem?_eq_some_iff.1 hx
  obtain ⟨_, _, _, ⟨_, _, _, _, _, _, b6, _, _⟩, _⟩ := h.2.2.2.2.2 k hm
  exact ⟨hm, b6⟩
theorem Arena.node {w : World} {T g c : Nat} {l : List Kn} (h : Arena w T g c l) {k : Nat} (hk : k < l.length) : ∃ p n cc, KnAt w g k l[k] p n cc ∧ In mkI w p n cc l[k].ns := h.2.2.2.2.2 k hk
end Go.Proofs.Ytcijjeflojaocaa
