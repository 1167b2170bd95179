/-
  What it is that two lists of bindings say the same (P11.4), as plain facts.
-/
import Derived.Test.YtpgmlagkpigdjaaEopA
namespace Go.Proofs.Ytpgmlagkpigdjaa
open Go.RowKit
set_option maxRecDepth 20000
set_option linter.unusedVariables false
set_option linter.unusedSimpArgs false

/-- The same, as deep as f. -/
def smF : Nat → List Bn → List Bn → Prop
  | 0, _, _ => True
  | f + 1, x, y => (visN x).length = (visN y).length ∧ ∀ (i : Nat) (a b : Bn), (visN x)[i]? = some a → (visN y)[i]? = some b →
      a.h.k = b.h.k ∧ a.h.dc = b.h.dc ∧ smF f a.ps b.ps ∧ smF f a.qs b.qs
def SM (x y : List Bn) : Prop := ∀ f, smF f x y
theorem sm_iff (x y : List Bn) : SM x y ↔ (visN x).length = (visN y).length ∧ ∀ (i : Nat) (a b : Bn), (visN x)[i]? = some a → (visN y)[i]? = some b →
    a.h.k = b.h.k ∧ a.h.dc = b.h.dc ∧ SM a.ps b.ps ∧ SM a.qs b.qs := by
  constructor
  · intro h
    exact ⟨(h 1).1, fun i a b ha hb => ⟨((h 1).2 i a b ha hb).1, ((h 1).2 i a b ha hb).2.1, fun f => ((h (f + 1)).2 i a b ha hb).2.2.1, fun f => ((h (f + 1)).2 i a b ha hb).2.2.2⟩⟩
  · rintro ⟨h1, h2⟩ f
    cases f with
    | zero => trivial
    | succ f => exact ⟨h1, fun i a b ha hb => ⟨(h2 i a b ha hb).1, (h2 i a b ha hb).2.1, (h2 i a b ha hb).2.2.1 f, (h2 i a b ha hb).2.2.2 f⟩⟩
theorem smF_refl : ∀ (f : Nat) (x : List Bn), smF f x x
  | 0, _ => trivial
  | f + 1, x => ⟨rfl, fun i a b ha hb => by
      have : a = b := by rw [ha] at hb; exact Option.some.inj hb
      subst this
      exact ⟨rfl, rfl, smF_refl f _, smF_refl f _⟩⟩
theorem smF_symm : ∀ (f : Nat) (x y : List Bn), smF f x y → smF f y x
  | 0, _, _, _ => trivial
  | f + 1, x, y, h => ⟨h.1.symm, fun i a b ha hb => by
      obtain ⟨h1, h2, h3, h4⟩ := h.2 i b a hb ha
      exact ⟨h1.symm, h2.symm, smF_symm f _ _ h3, smF_symm f _ _ h4⟩⟩
theorem smF_trans : ∀ (f : Nat) (x y z : List Bn), smF f x y → smF f y z → smF f x z
  | 0, _, _, _, _, _ => trivial
  | f + 1, x, y, z, h, g => ⟨h.1.trans g.1, fun i a b ha hb => by
      have hi : i < (visN y).length := by rw [← h.1]; exact (List.getElem?_eq_some_iff.1 ha).1
      obtain ⟨m, hm⟩ : ∃ m, (visN y)[i]? = some m := ⟨_, List.getElem?_eq_getElem hi⟩
      obtain ⟨h1, h2, h3, h4⟩ := h.2 i a m ha hm
      obtain ⟨g1, g2, g3, g4⟩ := g.2 i m b hm hb
      exact ⟨h1.trans g1, h2.trans g2, smF_trans f _ _ _ h3 g3, smF_trans f _ _ _ h4 g4⟩⟩
theorem SM.refl (x : List Bn) : SM x x := fun f => smF_refl f x
theorem SM.symm {x y : List Bn} (h : SM x y) : SM y x := fun f => smF_symm f _ _ (h f)
theorem SM.trans {x y z : List Bn} (h : SM x y) (g : SM y z) : SM x z := fun f => smF_trans f _ _ _ (h f) (g f)

/-- Links that begin at one place are the same links. -/
theorem lk_det {w : World} : ∀ {l m : List Bd}, Lk w l → Lk w m → top l = top m → l.map (·.bi) = m.map (·.bi)
  | [], [], _, _, _ => rfl
  | [], _ :: _, _, _, h => by simp [top, at0] at h
  | _ :: _, [], _, _, h => by simp [top, at0] at h
  | a :: r, b :: s, hl, hm, h => by
    have hab : a.lk = b.lk := by simpa [top, at0] using h
    obtain ⟨c0, c1, c2, c3, c4, c5, c6⟩ := hl.1.out
    obtain ⟨d0, d1, d2, d3, d4, d5, d6⟩ := hm.1.out
    rw [hab] at c0 c1 c2 c3 c4 c5 c6
    rw [c0] at d0; rw [c1] at d1; rw [c2] at d2; rw [c3] at d3; rw [c4] at d4; rw [c5] at d5; rw [c6] at d6
    simp only [Option.some.injEq, Value.int.injEq, Value.string.injEq, Value.pointer.injEq, true_and] at d0 d1 d2 d3 d4 d5 d6
    have hbi : a.bi = b.bi := by
      obtain ⟨⟨⟨a1, a2⟩, a3, a4, a5, a6⟩, _⟩ := a
      obtain ⟨⟨⟨b1, b2⟩, b3, b4, b5, b6⟩, _⟩ := b
      simp_all
    simp only [List.map_cons, hbi, List.cons.injEq, true_and]
    exact lk_det hl.2 hm.2 d6
theorem env_top {w : World} {p : Option Addr} {l m : List Bd} (h : EnvAt w p l) (g : EnvAt w p m) : top l = top m := by
  rcases h with ⟨hp, rfl⟩ | ⟨a, t, hp, hl, hr⟩ <;> rcases g with ⟨gp, rfl⟩ | ⟨b, u, gp, gl, gr⟩
  · rfl
  · rw [hp] at gp; simp [at0] at gp
  · rw [gp] at hp; simp [at0] at hp
  · rw [hp] at gp
    have hab : a = b := by simpa [at0] using gp
    subst hab
    have h1 := hr.c0
    rw [gr.c0] at h1
    simpa using h1.symm
theorem env_det {w : World} {p : Option Addr} {l m : List Bd} (h : EnvAt w p l) (g : EnvAt w p m) : l.map (·.bi) = m.map (·.bi) := lk_det h.lk g.lk (env_top h g)
theorem rep_det {w : World} : ∀ (f : Nat) (x y : List Bn) (bs : List Bi), RepL w x bs → RepL w y bs → smF f x y
  | 0, _, _, _, _, _ => trivial
  | f + 1, x, y, bs, hx, hy => by
    have vx := vis_rep hx
    have vy := vis_rep hy
    refine ⟨vx.len.trans vy.len.symm, fun i a b ha hb => ?_⟩
    obtain ⟨ba, hba, ra⟩ := vx.get ha
    obtain ⟨bb, hbb, rb⟩ := vy.get hb
    rw [hba] at hbb
    obtain rfl := Option.some.inj hbb
    obtain ⟨a1, a2, a3, ⟨L, a4, a5⟩, ⟨M, a6, a7⟩⟩ := (repB_iff _ _ _).1 ra
    obtain ⟨b1, b2, b3, ⟨L', b4, b5⟩, ⟨M', b6, b7⟩⟩ := (repB_iff _ _ _).1 rb
    rw [env_det b4 a4] at b5
    rw [env_det b6 a6] at b7
    exact ⟨a1.symm.trans b1, a2.symm.trans b2, rep_det f _ _ _ a5 b5, rep_det f _ _ _ a7 b7⟩
theorem is_det {w : World} {p : Option Addr} {x y : List Bn} (h : EnvIs w p x) (g : EnvIs w p y) : SM x y := by
  obtain ⟨L, h1, h2⟩ := h
  obtain ⟨M, g1, g2⟩ := g
  rw [env_det g1 h1] at g2
  exact fun f => rep_det f _ _ _ h2 g2

/-- Bindings with the same keys in the same order, declared by the same occurrences. -/
def Alb (l m : List Bi) : Prop := l.length = m.length ∧ ∀ (i : Nat) (a b : Bi), l[i]? = some a → m[i]? = some b → a.k = b.k ∧ a.dc = b.dc
/-- What two environments say is the same: whatever lists they are of. -/
def SMp (w : World) (p q : Option Addr) : Prop := ∀ x y, EnvIs w p x → EnvIs w q y → SM x y
theorem SMp.of {w : World} {p q : Option Addr} {x y : List Bn} (hx : EnvIs w p x) (hy : EnvIs w q y) (h : SM x y) : SMp w p q := fun x' y' hx' hy' => (is_det hx' hx).trans (h.trans (is_det hy hy'))
theorem SMp.self (w : World) (p : Option Addr) : SMp w p p := fun x y hx hy => is_det hx hy
theorem SM.top {w : World} {x y : List Bn} {bs cs : List Bi} (hx : RepL w x bs) (hy : RepL w y cs) (h : SM x y) :
    Alb (vis bs) (vis cs) ∧ ∀ (i : Nat) (a b : Bi), (vis bs)[i]? = some a → (vis cs)[i]? = some b → SMp w a.pa b.pa ∧ SMp w a.pm b.pm := by
  have vx := vis_rep hx
  have vy := vis_rep hy
  obtain ⟨h1, h2⟩ := (sm_iff x y).1 h
  have key : ∀ (i : Nat) (a b : Bi), (vis bs)[i]? = some a → (vis cs)[i]? = some b → (a.k = b.k ∧ a.dc = b.dc) ∧ SMp w a.pa b.pa ∧ SMp w a.pm b.pm := fun i a b ha hb => by
    obtain ⟨x', hx'⟩ : ∃ x', (visN x)[i]? = some x' := ⟨_, List.getElem?_eq_getElem (by rw [vx.len]; exact (List.getElem?_eq_some_iff.1 ha).1)⟩
    obtain ⟨y', hy'⟩ : ∃ y', (visN y)[i]? = some y' := ⟨_, List.getElem?_eq_getElem (by rw [vy.len]; exact (List.getElem?_eq_some_iff.1 hb).1)⟩
    obtain ⟨a', ha', ra⟩ := vx.get hx'
    obtain ⟨b', hb', rb⟩ := vy.get hy'
    rw [ha] at ha'; obtain rfl := Option.some.inj ha'
    rw [hb] at hb'; obtain rfl := Option.some.inj hb'
    obtain ⟨a1, a2, a3, a4, a5⟩ := (repB_iff _ _ _).1 ra
    obtain ⟨b1, b2, b3, b4, b5⟩ := (repB_iff _ _ _).1 rb
    obtain ⟨e1, e2, e3, e4⟩ := h2 i x' y' hx' hy'
    exact ⟨⟨by rw [a1, b1, e1], by rw [a2, b2, e2]⟩, SMp.of a4 b4 e3, SMp.of a5 b5 e4⟩
  exact ⟨⟨by rw [← vx.len, ← vy.len, h1], fun i a b ha hb => (key i a b ha hb).1⟩, fun i a b ha hb => (key i a b ha hb).2⟩
theorem SM.mk {w : World} {x y : List Bn} {bs cs : List Bi} (hx : RepL w x bs) (hy : RepL w y cs) (h : Alb (vis bs) (vis cs))
    (hk : ∀ (i : Nat) (a b : Bi), (vis bs)[i]? = some a → (vis cs)[i]? = some b → SMp w a.pa b.pa ∧ SMp w a.pm b.pm) : SM x y := by
  have vx := vis_rep hx
  have vy := vis_rep hy
  refine (sm_iff x y).2 ⟨by rw [vx.len, vy.len, h.1], fun i a b ha hb => ?_⟩
  obtain ⟨a', ha', ra⟩ := vx.get ha
  obtain ⟨b', hb', rb⟩ := vy.get hb
  obtain ⟨a1, a2, a3, a4, a5⟩ := (repB_iff _ _ _).1 ra
  obtain ⟨b1, b2, b3, b4, b5⟩ := (repB_iff _ _ _).1 rb
  obtain ⟨e1, e2⟩ := h.2 i a' b' ha' hb'
  obtain ⟨e3, e4⟩ := hk i a' b' ha' hb'
  exact ⟨by rw [← a1, ← b1, e1], by rw [← a2, ← b2, e2], e3 _ _ a4 b4, e4 _ _ a5 b5⟩
end Go.Proofs.Ytpgmlagkpigdjaa
