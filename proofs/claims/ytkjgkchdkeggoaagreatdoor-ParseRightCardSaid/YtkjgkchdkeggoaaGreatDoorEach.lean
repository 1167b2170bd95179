/-
  each: hands on the tokens, for any function that takes them.
-/
import Derived.Test.YtkjgkchdkeggoaaGreatDoorToken
namespace Go.Proofs.YtkjgkchdkeggoaaGreatDoor
open Go.RowKit
set_option linter.unusedVariables false
set_option linter.unusedSimpArgs false

def Tok.v (t : Tok) : Value := .agg #[.int .i64 t.k, .int .i64 (t.a : Int), .int .i64 (t.e : Int)]
/-- The token at a place; at the text's end: the end. -/
def tokAt (s : ByteArray) (a : Nat) : Tok := bif decide (a < s.size) then ⟨(tokN (s.data.toList.drop a)).1, a, a + (tokN (s.data.toList.drop a)).2⟩ else ⟨0, s.size, s.size⟩
theorem tokAt_in (s : ByteArray) (a : Nat) (h : a < s.size) : tokAt s a = ⟨(tokN (s.data.toList.drop a)).1, a, a + (tokN (s.data.toList.drop a)).2⟩ := by
  unfold tokAt; rw [decide_eq_true h]; rfl
theorem tokAt_end (s : ByteArray) : tokAt s s.size = ⟨0, s.size, s.size⟩ := by
  unfold tokAt; rw [decide_eq_false (by omega)]; rfl
/-- Tokens up to the first that is the end, or enough. -/
def uptoN (go : Tok → Bool) : List Tok → List Tok
  | [] => []
  | k :: r => bif go k && !(k.k == 0) then k :: uptoN go r else [k]
/-- The tokens from a place on, with the end. -/
def restT (s : ByteArray) (a : Nat) : List Tok := scanF s.size a (s.data.toList.drop a) ++ [⟨0, s.size, s.size⟩]
theorem restT_at (s : ByteArray) (a : Nat) (h : a < s.size) : restT s a = tokAt s a :: restT s (tokAt s a).e := by
  unfold restT
  rw [scan_at s a h, tokAt_in s a h]
  rfl
theorem restT_end (s : ByteArray) : restT s s.size = [tokAt s s.size] := by
  unfold restT
  rw [scan_end s s.size s.size (by omega), tokAt_end]
  rfl
theorem tokAt_bound (s : ByteArray) (a : Nat) (h : a < s.size) : a < (tokAt s a).e ∧ (tokAt s a).e ≤ s.size := by
  rw [tokAt_in s a h]
  have := tokN_bound (s.data.toList.drop a) (by rw [drop_at s a h]; simp)
  rw [List.length_drop, data_len] at this
  exact ⟨by simp; omega, by simp; omega⟩
theorem tokenAt_any (s : ByteArray) (hs : s.size ≤ 1000000) (a : Nat) (ha : a ≤ s.size) (w : World) (hk : Kw w) :
    Calls Tryz.prog 79 #[.string s, .int .i64 a] w fun e w' => e = .returned (.agg #[.int .i64 (tokAt s a).k, .int .i64 ((tokAt s a).a : Int), .int .i64 ((tokAt s a).e : Int)]) ∧ Below w.heap.size w w' := by
  by_cases h : a < s.size
  · rw [tokAt_in s a h]
    exact token_any s hs a h w hk
  · have : a = s.size := by omega
    subst this
    rw [tokAt_end]
    exact token_end s w hs

theorem wp_scope_label2 {P : Program} {a : Act} {w : World} {Q : Exit → Act → World → Prop} {x rest : Code} (l : Nat) (J : Act → World → Prop) (μ : Act → World → Nat)
    (hf : findLabel (x.seq ((Code.label l).seq rest)) l = some (Code.skip.seq rest))
    (h0 : x.wp P (Exit.then J (fun _ _ _ => False)) a w) (pass : ∀ a w, J a w → rest.wp P (Exit.jump l (fun a' w' => J a' w' ∧ μ a' w' < μ a w) Q) a w) : (Code.scope (x.seq ((Code.label l).seq rest))).wp P Q a w := by
  have hs : ∀ a w, J a w → (Code.skip.seq rest).wp P (Exit.jump l (fun a' w' => J a' w' ∧ μ a' w' < μ a w) Q) a w := fun a w h => wp_seq (wp_skip (pass a w h))
  refine wp_scope_jumps l J μ hf ?_ hs
  refine wp_seq (wp_mono h0 ?_)
  intro e a w h
  cases e with
  | normal => exact wp_seq (wp_label (wp_mono (pass a w h) (Exit.jump_mono fun _ _ h => h.1)))
  | _ => exact h.elim

set_option maxHeartbeats 2000000 in
theorem each_any (go : Tok → Bool) (I : List Tok → World → Prop) (n : Nat) (cap : Array Value)
    (hcf : ∀ args w, Sem.run Tryz.prog (callFunc n args) w = .ok (.enter n args) w) (s : ByteArray) (hs : s.size ≤ 1000000)
    (hst : ∀ l w w', I l w → Below w.heap.size w w' → I l w') (hkw : ∀ l w, I l w → Kw w)
    (H : ∀ l a w o, a ≤ s.size → l.length ≤ s.size → (∀ t ∈ l, go t = true) → I l w → Calls Tryz.prog n (#[(tokAt s a).v] ++ cap) (w.alloc o) fun e w' => e = .returned (.bool (go (tokAt s a))) ∧ I (l ++ [tokAt s a]) w' ∧ w'.heap[w.heap.size]? = some o)
    (w : World) (h0 : I [] w) :
    Calls Tryz.prog 53 #[.string s, .func (.func n) #[] cap] w fun e w' => e = .returned (.tuple #[]) ∧ I (uptoN go (restT s 0)) w' := by
  have HH := Lib.hid H
  have HS := Lib.hid hst
  have HK := Lib.hid hkw
  clear H hst hkw
  go_enter Tryz.func53, Tryz.ntmps53
  go_wp2
  refine wp_scope_label2 0 (fun a' w' => ∃ (a : Nat) (l : List Tok) (u5 u6 u7 u8 u9 u10 u11 u12 u13 u14 u15 u16 u17 u18 : Value), a ≤ s.size ∧ l.length ≤ a ∧ Hid (∀ t ∈ l, go t = true) ∧ Hid (I l w') ∧ Hid (uptoN go (restT s 0) = l ++ uptoN go (restT s a)) ∧ a' = { tmps := #[.string s, .func (.func n) #[] cap, undef, undef, .int .i64 a, u5, u6, u7, u8, u9, u10, u11, u12, u13, u14, u15, u16, u17, u18], defers := [] }) (fun a' _ => s.size - (intOf (a'.tmps.getD 4 undef)).toNat) (by rfl) ?_ ?_
  · go_wp2
    exact ⟨0, [], undef, undef, undef, undef, undef, undef, undef, undef, undef, undef, undef, undef, undef, undef, by omega, by simp, Lib.hid (fun t h => by simp at h), Lib.hid h0, Lib.hid rfl, rfl⟩
  rintro a' w' ⟨a, l, u5, u6, u7, u8, u9, u10, u11, u12, u13, u14, u15, u16, u17, u18, ha, hl, HG, HI, HP, rfl⟩
  have HT := tokenAt_any s hs a ha w' (HK.out _ _ HI.out)
  have HX := fun w o (h : I l w) => HH.out l a w o ha (by omega) HG.out h
  have HB : Hid (a < s.size → a < (tokAt s a).e ∧ (tokAt s a).e ≤ s.size) := Lib.hid (tokAt_bound s a)
  have HR : Hid (a < s.size → restT s a = tokAt s a :: restT s (tokAt s a).e) := Lib.hid (restT_at s a)
  have HN : Hid (¬ a < s.size → restT s a = [tokAt s a] ∧ (tokAt s a).k = 0) := Lib.hid fun h => by
    have : a = s.size := by omega
    subst this
    exact ⟨restT_end s, by rw [tokAt_end]⟩
  generalize tokAt s a = T at *
  obtain ⟨tk, ta, te⟩ := T
  simp only [Tok.v] at HX HT
  go_wp2_with fail
  refine HT.mono ?_
  rintro e w1 ⟨rfl, hb1⟩
  have HI1 := Lib.hid (HS.out _ _ _ HI.out hb1)
  clear hb1
  have HX := HX w1 (.cells #[.int .i64 tk, .int .i64 (ta : Int), .int .i64 (te : Int)] 39) HI1.out
  go_wp2_with fail
  refine HX.mono ?_
  rintro e w2 ⟨rfl, h2, hc⟩
  have HO : Own3 w2 w1.heap.size _ _ _ _ := ⟨hc⟩
  have c0 := HO.c0
  have c2 := HO.c2
  have H2 := Lib.hid h2
  have hstop : Hid (go ⟨tk, ta, te⟩ = false ∨ tk = 0 → uptoN go (restT s 0) = l ++ [⟨tk, ta, te⟩]) := Lib.hid fun h => by
    rw [HP.out]
    have e1 : (go ⟨tk, ta, te⟩ && !(tk == 0)) = false := by rcases h with h | h <;> simp [h]
    by_cases hlt : a < s.size
    · rw [HR.out hlt]; simp [uptoN, e1]
    · rw [(HN.out hlt).1]; simp [uptoN, e1]
  clear h2 hc HO
  cases hg : go ⟨tk, ta, te⟩
  · have HE := Lib.hid (hstop.out (.inl hg))
    go_wp2
    simp only [Exit.jump]
    go_returns
    exact ⟨rfl, HE.out ▸ H2.out⟩
  · by_cases hz : tk = 0
    · have HE := Lib.hid (hstop.out (.inr hz))
      go_wp2
      simp only [Exit.jump]
      go_returns
      exact ⟨rfl, HE.out ▸ H2.out⟩
    · have hlt : a < s.size := by
        apply Decidable.byContradiction
        intro h
        exact hz (HN.out h).2
      have hb := HB.out hlt
      have HE : Hid (uptoN go (restT s 0) = (l ++ [⟨tk, ta, te⟩]) ++ uptoN go (restT s te)) := Lib.hid (by
        rw [HP.out, HR.out hlt]
        have e1 : (go ⟨tk, ta, te⟩ && !(tk == 0)) = true := by simp [hg, hz]
        simp [uptoN, e1])
      have HG2 : Hid (∀ t ∈ l ++ [⟨tk, ta, te⟩], go t = true) := Lib.hid fun t ht => by
        rcases List.mem_append.1 ht with h | h
        · exact HG.out t h
        · simp at h; subst h; exact hg
      have hz' : (tk == 0) = false := by simpa using hz
      go_wp2
      go_step3
      refine ⟨rfl, ⟨te, _, _, _, _, _, _, _, _, _, _, _, _, _, _, _, hb.2, by simp; omega, HG2, H2, HE, by go_num⟩, ?_⟩
      simp [intOf]; omega
end Go.Proofs.YtkjgkchdkeggoaaGreatDoor
