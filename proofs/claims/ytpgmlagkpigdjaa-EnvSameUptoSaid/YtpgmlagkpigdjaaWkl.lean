/-
  Which environments say the same: the pairs that are still to be held against one another (env.Same), as plain facts.
-/
import Derived.Test.YtpgmlagkpigdjaaSmp
namespace Go.Proofs.Ytpgmlagkpigdjaa
open Go.RowKit
set_option maxRecDepth 20000
set_option linter.unusedVariables false
set_option linter.unusedSimpArgs false

/-- A pair of environments, and lists that they say. -/
structure Pr where
  p : Option Addr
  q : Option Addr
  x : List Bn
  y : List Bn
def Pr.k (e : Pr) : Option Addr × Option Addr := (e.p, e.q)
def mu : List Pr → Nat
  | [] => 0
  | e :: r => 2 * sizes e.x + 1 + mu r
theorem mu_append (a b : List Pr) : mu (a ++ b) = mu a + mu b := by
  induction a with
  | nil => simp [mu]
  | cons x r ih => simp only [List.cons_append, mu, ih]; omega
/-- The pairs of the parts and of the parameters of the first k bindings. -/
def kidsTo (A B : List Bi) (X Y : List Bn) : Nat → List Pr
  | 0 => []
  | k + 1 => kidsTo A B X Y k ++ (match A[k]?, B[k]?, X[k]?, Y[k]? with
    | some a, some b, some x, some y => [⟨a.pa, b.pa, x.ps, y.ps⟩, ⟨a.pm, b.pm, x.qs, y.qs⟩]
    | _, _, _, _ => [])
theorem kidsTo_next {A B : List Bi} {X Y : List Bn} {k : Nat} {a b : Bi} {x y : Bn} (ha : A[k]? = some a) (hb : B[k]? = some b) (hx : X[k]? = some x) (hy : Y[k]? = some y) :
    kidsTo A B X Y (k + 1) = kidsTo A B X Y k ++ [⟨a.pa, b.pa, x.ps, y.ps⟩, ⟨a.pm, b.pm, x.qs, y.qs⟩] := by
  simp only [kidsTo, ha, hb, hx, hy]
theorem kidsTo_mu (A B : List Bi) (X Y : List Bn) : ∀ k, mu (kidsTo A B X Y k) ≤ 2 * sizes (X.take k)
  | 0 => by simp [kidsTo, mu]
  | k + 1 => by
    have ih := kidsTo_mu A B X Y k
    simp only [kidsTo, mu_append]
    rw [List.take_add_one, sizes_append]
    split
    · rename_i a b x y ha hb hx hy
      rw [hx]
      have := x.size_eq
      simp only [mu, Option.toList_some, sizes]
      omega
    · simp only [mu]; omega
theorem kidsTo_mem {A B : List Bi} {X Y : List Bn} {e : Pr} : ∀ {k}, e ∈ kidsTo A B X Y k → ∃ i a b x y, i < k ∧ A[i]? = some a ∧ B[i]? = some b ∧ X[i]? = some x ∧ Y[i]? = some y ∧ (e = ⟨a.pa, b.pa, x.ps, y.ps⟩ ∨ e = ⟨a.pm, b.pm, x.qs, y.qs⟩)
  | 0, h => by simp [kidsTo] at h
  | k + 1, h => by
    simp only [kidsTo, List.mem_append] at h
    rcases h with h | h
    · obtain ⟨i, a, b, x, y, hi, hr⟩ := kidsTo_mem h
      exact ⟨i, a, b, x, y, by omega, hr⟩
    · split at h
      · rename_i a b x y ha hb hx hy
        refine ⟨k, a, b, x, y, by omega, ha, hb, hx, hy, ?_⟩
        simpa using h
      · cases h
theorem kidsTo_has {A B : List Bi} {X Y : List Bn} {i : Nat} {a b : Bi} {x y : Bn} (ha : A[i]? = some a) (hb : B[i]? = some b) (hx : X[i]? = some x) (hy : Y[i]? = some y) : ∀ {k}, i < k →
    (⟨a.pa, b.pa, x.ps, y.ps⟩ : Pr) ∈ kidsTo A B X Y k ∧ (⟨a.pm, b.pm, x.qs, y.qs⟩ : Pr) ∈ kidsTo A B X Y k
  | 0, h => by omega
  | k + 1, h => by
    by_cases hk : i = k
    · subst hk
      rw [kidsTo_next ha hb hx hy]
      simp
    · have := kidsTo_has ha hb hx hy (k := k) (by omega)
      simp only [kidsTo, List.mem_append]
      exact ⟨.inl this.1, .inl this.2⟩

/-- The pairs lie in memory. -/
def PrOk (w : World) (ls : List Pr) : Prop := ∀ e ∈ ls, EnvIs w e.p e.x ∧ EnvIs w e.q e.y
theorem PrOk.step {w w1 : World} {ls : List Pr} (h : PrOk w ls) (hw : Below w.heap.size w w1) : PrOk w1 ls := fun e he => ⟨(h e he).1.step hw, (h e he).2.step hw⟩
/-- A pair has been met, or is still to come. -/
def InPr (dom : List (Option Addr × Option Addr)) (ls : List Pr) (k : Option Addr × Option Addr) : Prop := k ∈ dom ∨ ∃ e ∈ ls, e.k = k
/-- What is the same of a pair at its top; the rest is met, or still to come. -/
def Closed (w : World) (I : Option Addr × Option Addr → Prop) (k : Option Addr × Option Addr) : Prop :=
  ∃ L M, EnvAt w k.1 L ∧ EnvAt w k.2 M ∧ Alb (vis ((L.map (·.bi)).reverse)) (vis ((M.map (·.bi)).reverse)) ∧
    ∀ (i : Nat) (a b : Bi), (vis ((L.map (·.bi)).reverse))[i]? = some a → (vis ((M.map (·.bi)).reverse))[i]? = some b → I (a.pa, b.pa) ∧ I (a.pm, b.pm)
theorem Closed.imp {w : World} {I J : Option Addr × Option Addr → Prop} {k : Option Addr × Option Addr} (h : Closed w I k) (hij : ∀ k, I k → J k) : Closed w J k := by
  obtain ⟨L, M, h1, h2, h3, h4⟩ := h
  exact ⟨L, M, h1, h2, h3, fun i a b ha hb => ⟨hij _ (h4 i a b ha hb).1, hij _ (h4 i a b ha hb).2⟩⟩
structure Wk (w : World) (x0 y0 : List Bn) (k0 : Option Addr × Option Addr) (dom : List (Option Addr × Option Addr)) (ls : List Pr) : Prop where
  ok : PrOk w ls
  fwd : SM x0 y0 → ∀ e ∈ ls, SM e.x e.y
  root : InPr dom ls k0
  clos : ∀ k ∈ dom, k.1 = k.2 ∨ Closed w (InPr dom ls) k
theorem Wk.start {w : World} {p q : Option Addr} {x y : List Bn} (hx : EnvIs w p x) (hy : EnvIs w q y) : Wk w x y (p, q) [] [⟨p, q, x, y⟩] where
  ok := fun e he => by simp only [List.mem_singleton] at he; subst he; exact ⟨hx, hy⟩
  fwd := fun h e he => by simp only [List.mem_singleton] at he; subst he; exact h
  root := .inr ⟨⟨p, q, x, y⟩, by simp, rfl⟩
  clos := fun k hk => by cases hk
theorem InPr.mono {dom dom' : List (Option Addr × Option Addr)} {ls ls' : List Pr} (hd : ∀ k ∈ dom, k ∈ dom') (hl : ∀ e ∈ ls, e ∈ ls' ∨ e.k ∈ dom') {k : Option Addr × Option Addr} (h : InPr dom ls k) : InPr dom' ls' k := by
  rcases h with h | ⟨e, he, rfl⟩
  · exact .inl (hd _ h)
  · rcases hl e he with h1 | h1
    · exact .inr ⟨e, h1, rfl⟩
    · exact .inl h1
/-- A pair that was met, or that is one environment, is left out. -/
theorem Wk.skip {w : World} {x0 y0 : List Bn} {k0 : Option Addr × Option Addr} {dom dom' : List (Option Addr × Option Addr)} {ls : List Pr} {e : Pr} (h : Wk w x0 y0 k0 dom (ls ++ [e]))
    (hd : ∀ k, k ∈ dom' ↔ k ∈ dom ∨ k = e.k) (he : e.k ∈ dom ∨ e.p = e.q) : Wk w x0 y0 k0 dom' ls := by
  have hmono : ∀ k, InPr dom (ls ++ [e]) k → InPr dom' ls k := fun k hk => InPr.mono (fun k hk => (hd k).2 (.inl hk)) (fun f hf => by
    rcases List.mem_append.1 hf with hf | hf
    · exact .inl hf
    · simp only [List.mem_singleton] at hf; subst hf; exact .inr ((hd _).2 (.inr rfl))) hk
  refine ⟨fun f hf => h.ok f (List.mem_append.2 (.inl hf)), fun hs f hf => h.fwd hs f (List.mem_append.2 (.inl hf)), hmono _ h.root, fun k hk => ?_⟩
  rcases (hd k).1 hk with h1 | rfl
  · rcases h.clos k h1 with h2 | h2
    · exact .inl h2
    · exact .inr (h2.imp hmono)
  · rcases he with h1 | h1
    · rcases h.clos _ h1 with h2 | h2
      · exact .inl h2
      · exact .inr (h2.imp hmono)
    · exact .inl h1
/-- A pair whose tops are alike: its parts' pairs come in its place. -/
theorem Wk.push {w : World} {x0 y0 : List Bn} {k0 : Option Addr × Option Addr} {dom dom' : List (Option Addr × Option Addr)} {ls : List Pr} {e : Pr} (h : Wk w x0 y0 k0 dom (ls ++ [e]))
    (hd : ∀ k, k ∈ dom' ↔ k ∈ dom ∨ k = e.k) {L M : List Bd} (hL : EnvAt w e.p L) (hM : EnvAt w e.q M) (hx : RepL w e.x ((L.map (·.bi)).reverse)) (hy : RepL w e.y ((M.map (·.bi)).reverse))
    (hal : Alb (vis ((L.map (·.bi)).reverse)) (vis ((M.map (·.bi)).reverse))) :
    Wk w x0 y0 k0 dom' (ls ++ kidsTo (vis ((L.map (·.bi)).reverse)) (vis ((M.map (·.bi)).reverse)) (visN e.x) (visN e.y) (visN e.x).length) := by
  have vx := vis_rep hx
  have vy := vis_rep hy
  obtain ⟨A, hA⟩ : ∃ A, A = vis ((L.map (·.bi)).reverse) := ⟨_, rfl⟩
  obtain ⟨B, hB⟩ : ∃ B, B = vis ((M.map (·.bi)).reverse) := ⟨_, rfl⟩
  rw [← hA] at vx hal ⊢
  rw [← hB] at vy hal ⊢
  have hmono : ∀ k, InPr dom (ls ++ [e]) k → InPr dom' (ls ++ kidsTo A B (visN e.x) (visN e.y) (visN e.x).length) k := fun k hk => InPr.mono (fun k hk => (hd k).2 (.inl hk)) (fun f hf => by
    rcases List.mem_append.1 hf with hf | hf
    · exact .inl (List.mem_append.2 (.inl hf))
    · simp only [List.mem_singleton] at hf; subst hf; exact .inr ((hd _).2 (.inr rfl))) hk
  refine ⟨fun f hf => ?_, fun hs f hf => ?_, hmono _ h.root, fun k hk => ?_⟩
  · rcases List.mem_append.1 hf with hf | hf
    · exact h.ok f (List.mem_append.2 (.inl hf))
    · obtain ⟨i, a, b, x, y, hi, ha, hb, hx', hy', he⟩ := kidsTo_mem hf
      obtain ⟨a', ha', ra⟩ := vx.get hx'
      obtain ⟨b', hb', rb⟩ := vy.get hy'
      rw [ha] at ha'; obtain rfl := Option.some.inj ha'
      rw [hb] at hb'; obtain rfl := Option.some.inj hb'
      obtain ⟨_, _, _, a4, a5⟩ := (repB_iff _ _ _).1 ra
      obtain ⟨_, _, _, b4, b5⟩ := (repB_iff _ _ _).1 rb
      rcases he with rfl | rfl
      · exact ⟨a4, b4⟩
      · exact ⟨a5, b5⟩
  · rcases List.mem_append.1 hf with hf | hf
    · exact h.fwd hs f (List.mem_append.2 (.inl hf))
    · obtain ⟨i, a, b, x, y, hi, ha, hb, hx', hy', he⟩ := kidsTo_mem hf
      have hsm := ((sm_iff e.x e.y).1 (h.fwd hs e (by simp))).2 i x y hx' hy'
      rcases he with rfl | rfl
      · exact hsm.2.2.1
      · exact hsm.2.2.2
  · rcases (hd k).1 hk with h1 | rfl
    · rcases h.clos k h1 with h2 | h2
      · exact .inl h2
      · exact .inr (h2.imp hmono)
    · refine .inr ⟨L, M, hL, hM, by rw [← hA, ← hB]; exact hal, fun i a b ha hb => ?_⟩
      rw [← hA] at ha
      rw [← hB] at hb
      obtain ⟨x, hx'⟩ : ∃ x, (visN e.x)[i]? = some x := ⟨_, List.getElem?_eq_getElem (by rw [vx.len]; exact (List.getElem?_eq_some_iff.1 ha).1)⟩
      obtain ⟨y, hy'⟩ : ∃ y, (visN e.y)[i]? = some y := ⟨_, List.getElem?_eq_getElem (by rw [vy.len]; exact (List.getElem?_eq_some_iff.1 hb).1)⟩
      have hh := kidsTo_has ha hb hx' hy' (List.getElem?_eq_some_iff.1 hx').1
      exact ⟨.inr ⟨_, List.mem_append.2 (.inr hh.1), rfl⟩, .inr ⟨_, List.mem_append.2 (.inr hh.2), rfl⟩⟩
/-- Tops that are not alike: not the same. -/
theorem Wk.no {w : World} {x0 y0 : List Bn} {k0 : Option Addr × Option Addr} {dom : List (Option Addr × Option Addr)} {ls : List Pr} {e : Pr} (h : Wk w x0 y0 k0 dom (ls ++ [e]))
    {L M : List Bd} (hx : RepL w e.x ((L.map (·.bi)).reverse)) (hy : RepL w e.y ((M.map (·.bi)).reverse))
    (hal : ¬ Alb (vis ((L.map (·.bi)).reverse)) (vis ((M.map (·.bi)).reverse))) : ¬ SM x0 y0 := fun hs => hal (SM.top hx hy (h.fwd hs e (by simp))).1
/-- Nothing is left: the same. -/
theorem Wk.yes {w : World} {x0 y0 : List Bn} {k0 : Option Addr × Option Addr} {dom : List (Option Addr × Option Addr)} (h : Wk w x0 y0 k0 dom []) (hx : EnvIs w k0.1 x0) (hy : EnvIs w k0.2 y0) : SM x0 y0 := by
  have key : ∀ (f : Nat) (k : Option Addr × Option Addr), k ∈ dom → ∀ x y, EnvIs w k.1 x → EnvIs w k.2 y → smF f x y := by
    intro f
    induction f with
    | zero => intros; trivial
    | succ f ih =>
      intro k hk x y hx hy
      rcases h.clos k hk with h1 | ⟨L, M, hL, hM, hal, hch⟩
      · rw [h1] at hx; exact is_det hx hy (f + 1)
      · obtain ⟨L', hL', rx⟩ := hx
        obtain ⟨M', hM', ry⟩ := hy
        rw [env_det hL' hL] at rx
        rw [env_det hM' hM] at ry
        have vx := vis_rep rx
        have vy := vis_rep ry
        refine ⟨by rw [vx.len, vy.len, hal.1], fun i a b ha hb => ?_⟩
        obtain ⟨a', ha', ra⟩ := vx.get ha
        obtain ⟨b', hb', rb⟩ := vy.get hb
        obtain ⟨a1, a2, a3, a4, a5⟩ := (repB_iff _ _ _).1 ra
        obtain ⟨b1, b2, b3, b4, b5⟩ := (repB_iff _ _ _).1 rb
        obtain ⟨e1, e2⟩ := hal.2 i a' b' ha' hb'
        obtain ⟨c1, c2⟩ := hch i a' b' ha' hb'
        have d1 : (a'.pa, b'.pa) ∈ dom := by rcases c1 with c1 | ⟨_, c1, _⟩; exact c1; cases c1
        have d2 : (a'.pm, b'.pm) ∈ dom := by rcases c2 with c2 | ⟨_, c2, _⟩; exact c2; cases c2
        exact ⟨by rw [← a1, ← b1, e1], by rw [← a2, ← b2, e2], ih _ d1 _ _ a4 b4, ih _ d2 _ _ a5 b5⟩
  have hr : k0 ∈ dom := by rcases h.root with c | ⟨_, c, _⟩; exact c; cases c
  exact fun f => key f k0 hr _ _ hx hy
end Go.Proofs.Ytpgmlagkpigdjaa
