/-
  What pairs link: plain facts on relations, least numbers of classes, and rows of pairs in order.; Pairs in order, each once: plain facts.; Rows of numbers and of pairs, of a call's own and handed in; worlds in which one block alone has turned.
-/
import Derived.Test.YtagkpcnedccaiaaFA
import Derived.OwnWalk
import Derived.Laws.OwnMore
import Derived.Lib.Hide
namespace Go.Proofs.Ytagkpcnedccaiaa

abbrev P2 := Int × Int
/-- No set that pairs do not leave parts a and b. -/
def Cn (l : List P2) (a b : Int) : Prop := ∀ S : Int → Prop, (∀ p ∈ l, (S p.1 ↔ S p.2)) → (S a ↔ S b)
theorem Cn.refl (l : List P2) (a : Int) : Cn l a a := fun _ _ => Iff.rfl
theorem Cn.symm {l : List P2} {a b : Int} (h : Cn l a b) : Cn l b a := fun S hS => (h S hS).symm
theorem Cn.trans {l : List P2} {a b c : Int} (h : Cn l a b) (g : Cn l b c) : Cn l a c := fun S hS => (h S hS).trans (g S hS)
theorem Cn.pair {l : List P2} {p : P2} (h : p ∈ l) : Cn l p.1 p.2 := fun _ hS => hS p h
theorem Cn.mono {l m : List P2} {a b : Int} (h : Cn l a b) (hm : ∀ p ∈ l, Cn m p.1 p.2) : Cn m a b := fun S hS => h S fun p hp => hm p hp S hS
theorem Cn.sub {l m : List P2} {a b : Int} (h : Cn l a b) (hm : ∀ p ∈ l, p ∈ m) : Cn m a b := h.mono fun p hp => .pair (hm p hp)
theorem Cn.of {α : Type} {l : List P2} {a b : Int} (h : Cn l a b) (f : Int → α) (hf : ∀ p ∈ l, f p.1 = f p.2) : f a = f b :=
 ((h (fun z => f z = f b) fun p hp => by rw [hf p hp]).2 rfl)

/-- The classes of a and b made one, each told by its least number. -/
def mrg (r : Nat → Nat) (a b : Nat) : Nat → Nat := fun x => if r x = r a ∨ r x = r b then min (r a) (r b) else r x
def inR (n : Nat) (p : P2) : Bool := decide (0 ≤ p.1) && decide (p.1 < n) && decide (0 ≤ p.2) && decide (p.2 < n)
theorem inR_iff (n : Nat) (p : P2) : inR n p = true ↔ 0 ≤ p.1 ∧ p.1 < n ∧ 0 ≤ p.2 ∧ p.2 < n := by simp [inR, and_assoc]
def vl (n : Nat) (l : List P2) : List P2 := l.filter (inR n)
def mrgP (n : Nat) (r : Nat → Nat) (p : P2) : Nat → Nat := bif inR n p then mrg r p.1.toNat p.2.toNat else r
def cls (n : Nat) (l : List P2) : Nat → Nat := l.foldl (mrgP n) id
theorem cls_snoc (n : Nat) (l : List P2) (p : P2) : cls n (l ++ [p]) = mrgP n (cls n l) p := by simp [cls]

/-- What classes are. -/
structure UF (n : Nat) (l : List P2) (r : Nat → Nat) : Prop where
 le : ∀ x, r x ≤ x
 idem : ∀ x, r (r x) = r x
 closed : ∀ p ∈ l, inR n p = true → r p.1.toNat = r p.2.toNat
 sound : ∀ x : Nat, x < n → Cn (vl n l) x (r x : Nat)
theorem mrg_le {r : Nat → Nat} (h : ∀ x, r x ≤ x) (a b x : Nat) : mrg r a b x ≤ x := by
 unfold mrg
 have := h x
 split
 ·rename_i h1; rcases h1 with h1 | h1 <;> omega
 ·exact this
theorem mrg_idem {r : Nat → Nat} (h : ∀ x, r (r x) = r x) (a b x : Nat) : mrg r a b (mrg r a b x) = mrg r a b x := by
 have key : ∀ y, (r y = r a ∨ r y = r b) → mrg r a b y = min (r a) (r b) := fun y hy => by unfold mrg; rw [if_pos hy]
 by_cases h1 : r x = r a ∨ r x = r b
 ·rw [key x h1]
  refine key _ ?_
  rcases Nat.le_total (r a) (r b) with hab | hab
  ·left; rw [Nat.min_eq_left hab, h a]
  ·right; rw [Nat.min_eq_right hab, h b]
 ·have e : mrg r a b x = r x := by unfold mrg; rw [if_neg h1]
  rw [e]
  unfold mrg
  rw [h x, if_neg h1]
theorem mrg_eq {r : Nat → Nat} {x y : Nat} (h : r x = r y) (a b : Nat) : mrg r a b x = mrg r a b y := by unfold mrg; rw [h]
theorem mrg_ab (r : Nat → Nat) (a b : Nat) : mrg r a b a = mrg r a b b := by unfold mrg; rw [if_pos (.inl rfl), if_pos (.inr rfl)]
theorem UF.start (n : Nat) : UF n [] id := ⟨fun _ => Nat.le_refl _, fun _ => rfl, fun p hp => by simp at hp, fun x _ => Cn.refl _ _⟩
theorem vl_snoc (n : Nat) (l : List P2) (p : P2) : vl n (l ++ [p]) = vl n l ++ (bif inR n p then [p] else []) := by
 simp only [vl, List.filter_append]
 congr 1
theorem UF.next {n : Nat} {l : List P2} {r : Nat → Nat} (h : UF n l r) (p : P2) : UF n (l ++ [p]) (mrgP n r p) := by
 have hsub : ∀ q ∈ vl n l, q ∈ vl n (l ++ [p]) := fun q hq => by rw [vl_snoc]; exact List.mem_append_left _ hq
 unfold mrgP
 cases hp : inR n p with
 | false =>
  refine ⟨h.le, h.idem, fun q hq hin => ?_, fun x hx => (h.sound x hx).sub hsub⟩
  rcases List.mem_append.1 hq with hq | hq
  ·exact h.closed q hq hin
  ·simp only [List.mem_singleton] at hq; subst hq; rw [hp] at hin; cases hin
 | true =>
  obtain ⟨h0, h1, h2, h3⟩ := (inR_iff n p).1 hp
  refine ⟨mrg_le h.le _ _, mrg_idem h.idem _ _, fun q hq hin => ?_, fun x hx => ?_⟩
  ·rcases List.mem_append.1 hq with hq | hq
   ·exact mrg_eq (h.closed q hq hin) _ _
   ·simp only [List.mem_singleton] at hq; subst hq; exact mrg_ab _ _ _
  ·have hpm : p ∈ vl n (l ++ [p]) := by rw [vl_snoc, hp]; simp
   have ea : ((p.1.toNat : Nat) : Int) = p.1 := by omega
   have eb : ((p.2.toNat : Nat) : Int) = p.2 := by omega
   have ca : Cn (vl n (l ++ [p])) p.1 (r p.1.toNat : Nat) := by
    have := (h.sound p.1.toNat (by omega)).sub hsub; rwa [ea] at this
   have cb : Cn (vl n (l ++ [p])) p.2 (r p.2.toNat : Nat) := by
    have := (h.sound p.2.toNat (by omega)).sub hsub; rwa [eb] at this
   have cx := (h.sound x hx).sub hsub
   have cab : Cn (vl n (l ++ [p])) (r p.1.toNat : Nat) (r p.2.toNat : Nat) := ca.symm.trans ((Cn.pair hpm).trans cb)
   show Cn _ _ ((mrg r p.1.toNat p.2.toNat x : Nat) : Int)
   unfold mrg
   split
   ·rename_i hr
    have cm : Cn (vl n (l ++ [p])) (r p.1.toNat : Nat) ((min (r p.1.toNat) (r p.2.toNat) : Nat) : Int) := by
     rcases Nat.le_total (r p.1.toNat) (r p.2.toNat) with hab | hab
     ·rw [Nat.min_eq_left hab]; exact Cn.refl _ _
     ·rw [Nat.min_eq_right hab]; exact cab
    rcases hr with hr | hr
    ·rw [hr] at cx; exact cx.trans cm
    ·rw [hr] at cx; exact cx.trans (cab.symm.trans cm)
   ·exact cx
theorem cls_uf (n : Nat) (l : List P2) : UF n l (cls n l) := by
 have key : ∀ (m l : List P2) (r : Nat → Nat), UF n l r → UF n (l ++ m) (m.foldl (mrgP n) r) := by
  intro m
  induction m with
  | nil => intro l r h; simpa using h
  | cons p m ih =>
   intro l r h
   have := ih (l ++ [p]) _ (h.next p)
   simpa using this
 have := key l [] id (UF.start n)
 simpa [cls] using this
theorem UF.cn {n : Nat} {l : List P2} {r : Nat → Nat} (h : UF n l r) {x y : Int} (hc : Cn (vl n l) x y) : r x.toNat = r y.toNat :=
 hc.of (fun z => r z.toNat) fun p hp => h.closed p (List.mem_filter.1 hp).1 (List.mem_filter.1 hp).2
theorem UF.same {n : Nat} {l : List P2} {r : Nat → Nat} (h : UF n l r) {x y : Nat} (hx : x < n) (hy : y < n) (e : r x = r y) : Cn (vl n l) x y := by
 have a := h.sound x hx
 have b := h.sound y hy
 rw [e] at a
 exact a.trans b.symm

/-- One look at a pair: both its numbers get the lesser one of what they have. -/
def low (n : Nat) (f : Nat → Nat) (p : P2) : Nat → Nat := bif inR n p then fun x => if x = p.1.toNat ∨ x = p.2.toNat then min (f p.1.toNat) (f p.2.toNat) else f x else f
def lowAll (n : Nat) (l : List P2) (f : Nat → Nat) : Nat → Nat := l.foldl (low n) f
def lows (n : Nat) (l : List P2) : Nat → Nat → Nat
 | 0 => id
 | k + 1 => lowAll n l (lows n l k)
/-- What stands between the least numbers and where they start. -/
structure Lw (n : Nat) (l : List P2) (f : Nat → Nat) : Prop where
 sound : ∀ x : Nat, x < n → Cn (vl n l) x (f x : Nat)
 le : ∀ x, f x ≤ x
theorem Lw.ge {n : Nat} {l : List P2} {f : Nat → Nat} (h : Lw n l f) {x : Nat} (hx : x < n) : cls n l x ≤ f x := by
 have := (cls_uf n l).cn (h.sound x hx)
 simp only [Int.toNat_natCast] at this
 rw [this]; exact (cls_uf n l).le _
theorem low_le (n : Nat) (f : Nat → Nat) (p : P2) (x : Nat) : low n f p x ≤ f x := by
 unfold low
 cases inR n p with
 | false => exact Nat.le_refl _
 | true =>
  show (if x = p.1.toNat ∨ x = p.2.toNat then min (f p.1.toNat) (f p.2.toNat) else f x) ≤ f x
  split
  ·rename_i h; rcases h with h | h <;> subst h <;> omega
  ·exact Nat.le_refl _
theorem Lw.next {n : Nat} {l : List P2} {f : Nat → Nat} (h : Lw n l f) {p : P2} (hp : p ∈ l) : Lw n l (low n f p) := by
 refine ⟨fun x hx => ?_, fun x => Nat.le_trans (low_le n f p x) (h.le x)⟩
 unfold low
 cases hin : inR n p with
 | false => exact h.sound x hx
 | true =>
  obtain ⟨h0, h1, h2, h3⟩ := (inR_iff n p).1 hin
  have hpm : p ∈ vl n l := List.mem_filter.2 ⟨hp, hin⟩
  have ea : ((p.1.toNat : Nat) : Int) = p.1 := by omega
  have eb : ((p.2.toNat : Nat) : Int) = p.2 := by omega
  have ca := h.sound p.1.toNat (by omega)
  have cb := h.sound p.2.toNat (by omega)
  rw [ea] at ca; rw [eb] at cb
  have cp := Cn.pair hpm
  show Cn _ _ ((if x = p.1.toNat ∨ x = p.2.toNat then min (f p.1.toNat) (f p.2.toNat) else f x : Nat) : Int)
  split
  ·rename_i hr
   rcases Nat.le_total (f p.1.toNat) (f p.2.toNat) with hab | hab
   ·rw [Nat.min_eq_left hab]
    rcases hr with rfl | rfl
    ·rw [ea]; exact ca
    ·rw [eb]; exact cp.symm.trans ca
   ·rw [Nat.min_eq_right hab]
    rcases hr with rfl | rfl
    ·rw [ea]; exact cp.trans cb
    ·rw [eb]; exact cb
  ·exact h.sound x hx
theorem lowAll_le (n : Nat) : ∀ (m : List P2) (f : Nat → Nat) (x : Nat), lowAll n m f x ≤ f x
 | [], _, _ => Nat.le_refl _
 | p :: m, f, x => Nat.le_trans (lowAll_le n m (low n f p) x) (low_le n f p x)
theorem Lw.nexts {n : Nat} {l : List P2} : ∀ (m : List P2) {f : Nat → Nat}, Lw n l f → (∀ p ∈ m, p ∈ l) → Lw n l (lowAll n m f)
 | [], _, h, _ => h
 | p :: m, _, h, hm => Lw.nexts m (h.next (hm p (by simp))) (fun q hq => hm q (by simp [hq]))
theorem Lw.start (n : Nat) (l : List P2) : Lw n l id := ⟨fun _ _ => Cn.refl _ _, fun _ => Nat.le_refl _⟩
theorem lows_lw (n : Nat) (l : List P2) : ∀ k, Lw n l (lows n l k)
 | 0 => Lw.start n l
 | k + 1 => (lows_lw n l k).nexts l fun _ h => h
/-- A pair of which one has its least number gives it to the other one. -/
theorem low_gives {n : Nat} {l : List P2} {f : Nat → Nat} (h : Lw n l f) {p : P2} (hp : p ∈ l) (hin : inR n p = true) (hd : f p.1.toNat = cls n l p.1.toNat ∨ f p.2.toNat = cls n l p.2.toNat) :
  low n f p p.1.toNat = cls n l p.1.toNat ∧ low n f p p.2.toNat = cls n l p.2.toNat := by
 obtain ⟨h0, h1, h2, h3⟩ := (inR_iff n p).1 hin
 have e := (cls_uf n l).closed p hp hin
 have ga := h.ge (x := p.1.toNat) (by omega)
 have gb := h.ge (x := p.2.toNat) (by omega)
 unfold low
 rw [hin]
 show (if p.1.toNat = p.1.toNat ∨ p.1.toNat = p.2.toNat then min (f p.1.toNat) (f p.2.toNat) else f p.1.toNat) = _ ∧ (if p.2.toNat = p.1.toNat ∨ p.2.toNat = p.2.toNat then min (f p.1.toNat) (f p.2.toNat) else f p.2.toNat) = _
 rw [if_pos (.inl rfl), if_pos (.inr rfl)]
 constructor <;> omega
theorem lowAll_keeps {n : Nat} {l : List P2} : ∀ (m : List P2) {f : Nat → Nat}, Lw n l f → (∀ p ∈ m, p ∈ l) → ∀ {x : Nat}, x < n → f x = cls n l x → lowAll n m f x = cls n l x := fun m f h hm x hx e => by
 have h1 := lowAll_le n m f x
 have h2 := (h.nexts m hm).ge hx
 omega
theorem lowAll_gives {n : Nat} {l : List P2} : ∀ (m : List P2) {f : Nat → Nat}, Lw n l f → (∀ p ∈ m, p ∈ l) → ∀ p ∈ m, inR n p = true → (f p.1.toNat = cls n l p.1.toNat ∨ f p.2.toNat = cls n l p.2.toNat) → lowAll n m f p.1.toNat = cls n l p.1.toNat ∧ lowAll n m f p.2.toNat = cls n l p.2.toNat
 | [], _, _, _, p, hp, _, _ => by simp at hp
 | q :: m, f, h, hm, p, hp, hin, hd => by
  have hq := hm q (by simp)
  have hm' : ∀ p ∈ m, p ∈ l := fun r hr => hm r (by simp [hr])
  obtain ⟨h0, h1, h2, h3⟩ := (inR_iff n p).1 hin
  rcases List.mem_cons.1 hp with e | hp
  ·subst e
   obtain ⟨a, b⟩ := low_gives h hq hin hd
   exact ⟨lowAll_keeps m (h.next hq) hm' (by omega) a, lowAll_keeps m (h.next hq) hm' (by omega) b⟩
  ·refine lowAll_gives m (h.next hq) hm' p hp hin ?_
   rcases hd with hd | hd
   ·left; exact lowAll_keeps [q] h (by simpa using hq) (by omega) hd
   ·right; exact lowAll_keeps [q] h (by simpa using hq) (by omega) hd

theorem countP_le_of {α : Type} {p q : α → Bool} : ∀ {l : List α}, (∀ x ∈ l, p x = true → q x = true) → l.countP p ≤ l.countP q
 | [], _ => by simp
 | x :: l, h => by
  have ih := countP_le_of (l := l) (p := p) (q := q) fun y hy => h y (by simp [hy])
  have hx := h x (by simp)
  simp only [List.countP_cons]
  cases hp : p x <;> cases hq : q x <;> simp [hp, hq] at hx ⊢ <;> omega
theorem countP_lt_of {α : Type} {p q : α → Bool} : ∀ {l : List α}, (∀ x ∈ l, p x = true → q x = true) → (∃ x ∈ l, p x = false ∧ q x = true) → l.countP p < l.countP q
 | [], _, ⟨x, hx, _⟩ => by simp at hx
 | x :: l, h, ⟨y, hy, h1, h2⟩ => by
  have h' : ∀ z ∈ l, p z = true → q z = true := fun z hz => h z (by simp [hz])
  have le := countP_le_of h'
  simp only [List.countP_cons]
  rcases List.mem_cons.1 hy with e | hy
  ·subst e; simp [h1, h2]; omega
  ·have ih := countP_lt_of h' ⟨y, hy, h1, h2⟩
   have hx := h x (by simp)
   cases hp : p x <;> cases hq : q x <;> simp [hp, hq] at hx ⊢ <;> omega
def dn (n : Nat) (l : List P2) (f : Nat → Nat) (x : Nat) : Bool := decide (f x = cls n l x)
/-- Where a round gives nobody its least number, all have it. -/
theorem lows_all {n : Nat} {l : List P2} {f : Nat → Nat} (h : Lw n l f) (hno : ∀ x, x < n → dn n l (lowAll n l f) x = true → dn n l f x = true) : ∀ x, x < n → f x = cls n l x := by
 intro x hx
 have hroot : f (cls n l x) = cls n l (cls n l x) := by
  have h1 := h.le (cls n l x)
  have h2 := h.ge (x := cls n l x) (Nat.lt_of_le_of_lt ((cls_uf n l).le x) hx)
  have h3 := (cls_uf n l).idem x
  omega
 have hS := (cls_uf n l).sound x hx (fun z => dn n l f z.toNat = true) fun p hp => by
  obtain ⟨hp, hin⟩ := List.mem_filter.1 hp
  obtain ⟨h0, h1, h2, h3⟩ := (inR_iff n p).1 hin
  constructor
  ·intro ha
   have := lowAll_gives l h (fun _ h => h) p hp hin (.inl (by simpa [dn] using ha))
   exact hno _ (by omega) (by simpa [dn] using this.2)
  ·intro hb
   have := lowAll_gives l h (fun _ h => h) p hp hin (.inr (by simpa [dn] using hb))
   exact hno _ (by omega) (by simpa [dn] using this.1)
 have := hS.2 (by simpa [dn] using hroot)
 simpa [dn] using this
theorem lows_end {n : Nat} {l : List P2} : ∀ k, (∀ x, x < n → lows n l k x = cls n l x) ∨ k ≤ (List.range n).countP (dn n l (lows n l k))
 | 0 => .inr (Nat.zero_le _)
 | k + 1 => by
  have hlw := lows_lw n l k
  rcases lows_end (n := n) (l := l) k with h | h
  ·left
   intro x hx
   exact lowAll_keeps l hlw (fun _ h => h) hx (h x hx)
  ·by_cases hno : ∀ x, x < n → dn n l (lowAll n l (lows n l k)) x = true → dn n l (lows n l k) x = true
   ·left
    intro x hx
    exact lowAll_keeps l hlw (fun _ h => h) hx (lows_all hlw hno x hx)
   ·right
    have : ∃ x, x < n ∧ dn n l (lowAll n l (lows n l k)) x = true ∧ dn n l (lows n l k) x = false := by
     refine Classical.byContradiction fun hc => hno fun x hx h1 => ?_
     cases h2 : dn n l (lows n l k) x with
     | true => rfl
     | false => exact absurd ⟨x, hx, h1, h2⟩ hc
    obtain ⟨x, hx, h1, h2⟩ := this
    have := countP_lt_of (l := List.range n) (p := dn n l (lows n l k)) (q := dn n l (lows n l (k + 1)))
     (fun y hy hd => by
      have := lowAll_keeps l hlw (fun _ h => h) (List.mem_range.1 hy) (by simpa [dn] using hd)
      simp only [dn, decide_eq_true_eq]; exact this) ⟨x, List.mem_range.2 hx, h2, h1⟩
    omega
/-- After n + 1 rounds all have their least numbers. -/
theorem lows_cls (n : Nat) (l : List P2) (x : Nat) (hx : x < n) : lows n l (n + 1) x = cls n l x := by
 rcases lows_end (n := n) (l := l) (n + 1) with h | h
 ·exact h x hx
 ·have := List.countP_le_length (p := dn n l (lows n l (n + 1))) (l := List.range n)
  simp at this
  omega

/-- One look at a pair for what is met. -/
def inI (l : List Int) (x : Int) : Bool := l.any fun y => decide (y = x)
theorem inI_iff (l : List Int) (x : Int) : inI l x = true ↔ x ∈ l := by simp [inI]
def meet (m : List Int) (p : P2) : List Int := m ++ ((bif inI m p.1 && !inI m p.2 then [p.2] else []) ++ (bif inI m p.2 && !inI m p.1 then [p.1] else []))
def meetAll (l : List P2) (m : List Int) : List Int := l.foldl meet m
def meets (l : List P2) (a : Int) : Nat → List Int
 | 0 => [a]
 | k + 1 => meetAll l (meets l a k)
theorem meet_sub (m : List Int) (p : P2) : ∀ x ∈ m, x ∈ meet m p := fun _ h => List.mem_append_left _ h
theorem meetAll_sub : ∀ (l : List P2) (m : List Int), ∀ x ∈ m, x ∈ meetAll l m
 | [], _, _, h => h
 | p :: l, m, x, h => meetAll_sub l (meet m p) x (meet_sub m p x h)
theorem meet_cn {l : List P2} {a : Int} {m : List Int} (h : ∀ x ∈ m, Cn l a x) {p : P2} (hp : p ∈ l) : ∀ x ∈ meet m p, Cn l a x := by
 intro x hx
 rcases List.mem_append.1 hx with hx | hx
 ·exact h x hx
 ·rcases List.mem_append.1 hx with hx | hx
  ·cases h1 : inI m p.1 <;> cases h2 : inI m p.2 <;> simp [h1, h2] at hx
   subst hx; exact (h _ ((inI_iff _ _).1 h1)).trans (Cn.pair hp)
  ·cases h1 : inI m p.1 <;> cases h2 : inI m p.2 <;> simp [h1, h2] at hx
   subst hx; exact (h _ ((inI_iff _ _).1 h2)).trans (Cn.pair hp).symm
theorem meetAll_cn {l : List P2} {a : Int} : ∀ (q : List P2) {m : List Int}, (∀ x ∈ m, Cn l a x) → (∀ p ∈ q, p ∈ l) → ∀ x ∈ meetAll q m, Cn l a x
 | [], _, h, _ => h
 | p :: q, _, h, hq => meetAll_cn q (meet_cn h (hq p (by simp))) fun r hr => hq r (by simp [hr])
theorem meets_cn (l : List P2) (a : Int) : ∀ k, ∀ x ∈ meets l a k, Cn l a x
 | 0, x, h => by simp [meets] at h; subst h; exact Cn.refl _ _
 | k + 1, x, h => meetAll_cn l (meets_cn l a k) (fun _ h => h) x h
theorem meets_a (l : List P2) (a : Int) : ∀ k, a ∈ meets l a k
 | 0 => by simp [meets]
 | k + 1 => meetAll_sub l _ a (meets_a l a k)
theorem meet_both (m : List Int) (p : P2) (h : p.1 ∈ m ∨ p.2 ∈ m) : p.1 ∈ meet m p ∧ p.2 ∈ meet m p := by
 unfold meet
 have e1 := inI_iff m p.1
 have e2 := inI_iff m p.2
 cases h1 : inI m p.1 <;> cases h2 : inI m p.2 <;> simp [h1, h2] at e1 e2 h ⊢ <;> simp [e1, e2] at h ⊢
theorem meetAll_both : ∀ (q : List P2) {m : List Int}, ∀ p ∈ q, (p.1 ∈ m ∨ p.2 ∈ m) → p.1 ∈ meetAll q m ∧ p.2 ∈ meetAll q m
 | [], _, p, hp, _ => by simp at hp
 | r :: q, m, p, hp, h => by
  rcases List.mem_cons.1 hp with e | hp
  ·subst e
   obtain ⟨a, b⟩ := meet_both m p h
   exact ⟨meetAll_sub q _ _ a, meetAll_sub q _ _ b⟩
  ·refine meetAll_both q p hp ?_
   rcases h with h | h
   ·exact .inl (meet_sub m r _ h)
   ·exact .inr (meet_sub m r _ h)
def Shut (l : List P2) (m : List Int) : Prop := ∀ p ∈ l, (p.1 ∈ m ↔ p.2 ∈ m)
theorem meet_shut {m : List Int} {p : P2} (h : p.1 ∈ m ↔ p.2 ∈ m) : meet m p = m := by
 have e1 := inI_iff m p.1
 have e2 := inI_iff m p.2
 unfold meet
 cases h1 : inI m p.1 <;> cases h2 : inI m p.2 <;> simp [h1, h2] at e1 e2 ⊢ <;> simp [e1, e2] at h
theorem meetAll_shut : ∀ (q : List P2) {m : List Int}, Shut q m → meetAll q m = m
 | [], _, _ => rfl
 | p :: q, m, h => by
  have e := meet_shut (h p (by simp))
  show meetAll q (meet m p) = m
  rw [e]; exact meetAll_shut q fun r hr => h r (by simp [hr])
def bothIn (m : List Int) (p : P2) : Bool := inI m p.1 && inI m p.2
theorem meets_end (l : List P2) (a : Int) : ∀ k, Shut l (meets l a k) ∨ k ≤ l.countP (bothIn (meets l a k))
 | 0 => .inr (Nat.zero_le _)
 | k + 1 => by
  rcases meets_end l a k with h | h
  ·left; show Shut l (meetAll l (meets l a k)); rw [meetAll_shut l h]; exact h
  ·by_cases hs : Shut l (meets l a k)
   ·left; show Shut l (meetAll l (meets l a k)); rw [meetAll_shut l hs]; exact hs
   ·right
    have : ∃ p ∈ l, ¬ (p.1 ∈ meets l a k ↔ p.2 ∈ meets l a k) := Classical.byContradiction fun hc => hs fun p hp => Classical.byContradiction fun hn => hc ⟨p, hp, hn⟩
    obtain ⟨p, hp, hn⟩ := this
    have hor : p.1 ∈ meets l a k ∨ p.2 ∈ meets l a k := by
     by_cases h1 : p.1 ∈ meets l a k
     ·exact .inl h1
     ·by_cases h2 : p.2 ∈ meets l a k
      ·exact .inr h2
      ·exact absurd ⟨fun h => absurd h h1, fun h => absurd h h2⟩ hn
    have hb := meetAll_both l p hp hor
    have := countP_lt_of (l := l) (p := bothIn (meets l a k)) (q := bothIn (meets l a (k + 1)))
     (fun q hq hd => by
      simp only [bothIn, Bool.and_eq_true, inI_iff] at hd ⊢
      exact ⟨meetAll_sub l _ _ hd.1, meetAll_sub l _ _ hd.2⟩)
     ⟨p, hp, by
      cases hd : bothIn (meets l a k) p with
      | false => rfl
      | true => simp only [bothIn, Bool.and_eq_true, inI_iff] at hd; exact absurd ⟨fun _ => hd.2, fun _ => hd.1⟩ hn, by
      simp only [bothIn, Bool.and_eq_true, inI_iff]; exact hb⟩
    omega
/-- What is met after as many rounds as there are pairs, and one more, is what is linked. -/
theorem meets_iff (l : List P2) (a b : Int) : inI (meets l a (l.length + 1)) b = true ↔ Cn l a b := by
 have hs : Shut l (meets l a (l.length + 1)) := by
  rcases meets_end l a (l.length + 1) with h | h
  ·exact h
  ·have := List.countP_le_length (p := bothIn (meets l a (l.length + 1))) (l := l)
   omega
 rw [inI_iff]
 constructor
 ·exact meets_cn l a _ b
 ·intro h
  exact (h (fun z => z ∈ meets l a (l.length + 1)) hs).1 (meets_a l a _)
end Go.Proofs.Ytagkpcnedccaiaa

namespace Go.Proofs.Ytagkpcnedccaiaa

def plt (a b : P2) : Bool := decide (a.1 < b.1) || decide (a.1 = b.1) && decide (a.2 < b.2)
theorem plt_iff (a b : P2) : plt a b = true ↔ a.1 < b.1 ∨ a.1 = b.1 ∧ a.2 < b.2 := by simp [plt]
theorem plt_irr (a : P2) : plt a a = false := by simp [plt]
theorem plt_trans {a b c : P2} (h : plt a b = true) (g : plt b c = true) : plt a c = true := by
 rw [plt_iff] at *; omega
theorem plt_total {a b : P2} (h : plt a b = false) (g : plt b a = false) : a = b := by
 have h1 : ¬ plt a b = true := by simp [h]
 have h2 : ¬ plt b a = true := by simp [g]
 rw [plt_iff] at h1 h2
 exact Prod.ext (by omega) (by omega)
theorem plt_asym {a b : P2} (h : plt a b = true) : plt b a = false := by
 cases hb : plt b a with
 | false => rfl
 | true => have := plt_trans h hb; rw [plt_irr] at this; cases this
def Rise (l : List P2) : Prop := l.Pairwise fun a b => plt a b = true
/-- Two rows that rise and have the same pairs are the same. -/
theorem rise_ext : ∀ {l m : List P2}, Rise l → Rise m → (∀ x, x ∈ l ↔ x ∈ m) → l = m
 | [], [], _, _, _ => rfl
 | [], y :: m, _, _, h => by have := (h y).2 (by simp); simp at this
 | x :: l, [], _, _, h => by have := (h x).1 (by simp); simp at this
 | x :: l, y :: m, hl, hm, h => by
  obtain ⟨h1, h2⟩ := List.pairwise_cons.1 hl
  obtain ⟨h3, h4⟩ := List.pairwise_cons.1 hm
  have hxy : x = y := by
   rcases List.mem_cons.1 ((h x).1 (by simp)) with e | e
   ·exact e
   ·rcases List.mem_cons.1 ((h y).2 (by simp)) with e2 | e2
    ·exact e2.symm
    ·have a1 := h3 x e
     have a2 := h1 y e2
     rw [plt_asym a1] at a2; cases a2
  subst hxy
  congr 1
  refine rise_ext h2 h4 fun z => ?_
  constructor
  ·intro hz
   rcases List.mem_cons.1 ((h z).1 (by simp [hz])) with e | e
   ·subst e; have := h1 z hz; rw [plt_irr] at this; cases this
   ·exact e
  ·intro hz
   rcases List.mem_cons.1 ((h z).2 (by simp [hz])) with e | e
   ·subst e; have := h3 z hz; rw [plt_irr] at this; cases this
   ·exact e
/-- The lesser number of a pair ahead. -/
def nrm (p : P2) : P2 := (min p.1 p.2, max p.1 p.2)
def odd (p : P2) : Bool := decide (p.1 ≠ p.2)
def lnk (l : List P2) : List P2 := (l.filter odd).map nrm
theorem mem_lnk {l : List P2} {x : P2} : x ∈ lnk l ↔ ∃ p ∈ l, p.1 ≠ p.2 ∧ nrm p = x := by
 simp [lnk, odd, and_assoc]
theorem lnk_snoc (l : List P2) (p : P2) : lnk (l ++ [p]) = lnk l ++ (bif odd p then [nrm p] else []) := by
 cases h : odd p <;> simp [lnk, h]

def above (p : P2) : Option P2 → Bool
 | some q => plt p q
 | none => false
/-- The place from which on all are above a pair. -/
def kdown (out : List P2) (p : P2) : Nat → Nat
 | 0 => 0
 | k + 1 => if above p out[k]? = true then kdown out p k else k + 1
theorem kdown_le (out : List P2) (p : P2) : ∀ k, kdown out p k ≤ k
 | 0 => Nat.le_refl _
 | k + 1 => by
  unfold kdown
  split
  ·exact Nat.le_succ_of_le (kdown_le out p k)
  ·exact Nat.le_refl _
theorem kdown_above (out : List P2) (p : P2) : ∀ k, ∀ i q, kdown out p k ≤ i → i < k → out[i]? = some q → plt p q = true
 | 0, i, q, _, h, _ => by omega
 | k + 1, i, q, h1, h2, h3 => by
  unfold kdown at h1
  split at h1
  ·rename_i hk
   by_cases hi : i = k
   ·subst hi; rw [h3] at hk; exact hk
   ·exact kdown_above out p k i q h1 (by omega) h3
  ·omega
theorem kdown_last (out : List P2) (p : P2) : ∀ k q, 0 < kdown out p k → out[kdown out p k - 1]? = some q → plt p q = false
 | 0, _, h, _ => by simp [kdown] at h
 | k + 1, q, h, hq => by
  unfold kdown at h hq
  split at h
  ·rename_i hk
   rw [if_pos hk] at hq
   exact kdown_last out p k q h hq
  ·rename_i hk
   rw [if_neg hk] at hq
   simp only [Nat.add_sub_cancel] at hq
   rw [hq] at hk
   simpa [above] using hk
/-- A pair is put into a row, unless it stands there. -/
def put (out : List P2) (p : P2) : List P2 :=
 let k := kdown out p out.length
 bif decide (p.1 = p.2) || (decide (0 < k) && decide (out[k - 1]? = some p)) then out else out.take k ++ [p] ++ out.drop k
theorem put_mem {out : List P2} {p : P2} (x : P2) : x ∈ put out p ↔ x ∈ out ∨ (x = p ∧ p.1 ≠ p.2) := by
 unfold put
 simp only
 generalize hk : kdown out p out.length = k
 by_cases h1 : p.1 = p.2
 ·simp [h1]
 ·by_cases h2 : 0 < k ∧ out[k - 1]? = some p
  ·have : p ∈ out := List.mem_of_getElem? h2.2
   simp [h1, h2.1, h2.2]
   rintro rfl; exact this
  ·have hb : (decide (p.1 = p.2) || (decide (0 < k) && decide (out[k - 1]? = some p))) = false := by
    simp only [Bool.or_eq_false_iff, Bool.and_eq_false_iff, decide_eq_false_iff_not]
    refine ⟨h1, ?_⟩
    by_cases hk0 : 0 < k
    ·right; exact fun e => h2 ⟨hk0, e⟩
    ·left; exact hk0
   rw [hb]
   have e : x ∈ out ↔ x ∈ out.take k ∨ x ∈ out.drop k := by
    rw [← List.mem_append, List.take_append_drop]
   simp only [cond_false, List.mem_append, List.mem_singleton, e]
   constructor
   ·rintro ((h | h) | h)
    ·exact .inl (.inl h)
    ·exact .inr ⟨h, h1⟩
    ·exact .inl (.inr h)
   ·rintro ((h | h) | ⟨h, _⟩)
    ·exact .inl (.inl h)
    ·exact .inr h
    ·exact .inl (.inr h)
theorem put_rise {out : List P2} (h : Rise out) (p : P2) : Rise (put out p) := by
 unfold put
 simp only
 generalize hk : kdown out p out.length = k
 cases hb : (decide (p.1 = p.2) || (decide (0 < k) && decide (out[k - 1]? = some p))) with
 | true => exact h
 | false =>
  have hkl : k ≤ out.length := by rw [← hk]; exact kdown_le _ _ _
  have hab : ∀ q ∈ out.drop k, plt p q = true := fun q hq => by
   obtain ⟨i, hi, e⟩ := List.mem_iff_getElem.1 hq
   rw [List.getElem_drop] at e
   exact kdown_above out p out.length (k + i) q (by omega) (by simp at hi; omega) (by rw [← e]; exact List.getElem?_eq_getElem _)
  have hbe : ∀ q ∈ out.take k, plt q p = true := fun q hq => by
   obtain ⟨i, hi, e⟩ := List.mem_iff_getElem.1 hq
   simp only [List.length_take] at hi
   rw [List.getElem_take] at e
   have hk0 : 0 < k := by omega
   obtain ⟨z, hz⟩ : ∃ z, out[k - 1]? = some z := ⟨_, List.getElem?_eq_getElem (by omega)⟩
   have hzp : plt p z = false := kdown_last out p out.length z (by omega) (by rw [hk]; exact hz)
   have hne : z ≠ p := by
    intro e; subst e
    simp [hk0, hz] at hb
   have hzp2 : plt z p = true := by
    cases hc : plt z p with
    | true => rfl
    | false => exact absurd (plt_total hc hzp) hne
   by_cases hik : i = k - 1
   ·have : q = z := by
     have h1 : out[i]? = some q := by rw [← e]; exact List.getElem?_eq_getElem _
     rw [hik, hz] at h1; exact (Option.some.inj h1).symm
    subst this; exact hzp2
   ·have hiz := (List.pairwise_iff_getElem.1 h) i (k - 1) (by omega) (by omega) (by omega)
    have ez : out[k - 1] = z := by
     have := List.getElem?_eq_getElem (l := out) (i := k - 1) (by omega)
     rw [hz] at this; exact (Option.some.inj this).symm
    rw [e, ez] at hiz
    exact plt_trans hiz hzp2
  show Rise (out.take k ++ [p] ++ out.drop k)
  unfold Rise at h ⊢
  rw [List.pairwise_append, List.pairwise_append]
  refine ⟨⟨h.sublist (List.take_sublist _ _), by simp, fun a ha c hc => ?_⟩, h.sublist (List.drop_sublist _ _), fun a ha c hc => ?_⟩
  ·simp only [List.mem_singleton] at hc; subst hc; exact hbe a ha
  ·rcases List.mem_append.1 ha with ha | ha
   ·exact plt_trans (hbe a ha) (hab c hc)
   ·simp only [List.mem_singleton] at ha; subst ha; exact hab c hc
def puts (l : List P2) : List P2 := l.foldl (fun o p => put o (nrm p)) []
theorem puts_snoc (l : List P2) (p : P2) : puts (l ++ [p]) = put (puts l) (nrm p) := by simp [puts]
theorem nrm_ne (p : P2) : (nrm p).1 ≠ (nrm p).2 ↔ p.1 ≠ p.2 := by
 simp only [nrm]; omega
theorem snocRec {α : Type} {P : List α → Prop} (h0 : P []) (h1 : ∀ l x, P l → P (l ++ [x])) (l : List α) : P l := by
 have : ∀ r : List α, P r.reverse := by
  intro r
  induction r with
  | nil => exact h0
  | cons x r ih => rw [List.reverse_cons]; exact h1 _ _ ih
 have := this l.reverse
 rwa [List.reverse_reverse] at this
theorem puts_rise (l : List P2) : Rise (puts l) := by
 induction l using snocRec with
 | h0 => exact List.Pairwise.nil
 | h1 l p ih => rw [puts_snoc]; exact put_rise ih _
theorem puts_mem (l : List P2) (x : P2) : x ∈ puts l ↔ x ∈ lnk l := by
 induction l using snocRec with
 | h0 => simp [puts, lnk]
 | h1 l p ih =>
  rw [puts_snoc, put_mem, ih, lnk_snoc, List.mem_append, nrm_ne]
  cases h : odd p <;> simp [odd] at h <;> simp [h]
theorem put_len (out : List P2) (p : P2) : (put out p).length ≤ out.length + 1 := by
 unfold put
 simp only
 generalize kdown out p out.length = k
 cases (decide (p.1 = p.2) || (decide (0 < k) && decide (out[k - 1]? = some p))) with
 | true => simp
 | false => simp; omega
theorem puts_len (l : List P2) : (puts l).length ≤ l.length := by
 induction l using snocRec with
 | h0 => simp [puts]
 | h1 l p ih => rw [puts_snoc]; have := put_len (puts l) (nrm p); simp; omega

/-- Of those that are the same and stand side by side the last ones. -/
def dd : List P2 → List P2
 | [] => []
 | [x] => [x]
 | x :: y :: r => bif decide (x = y) then dd (y :: r) else x :: dd (y :: r)
theorem dd_mem : ∀ (l : List P2) (x : P2), x ∈ dd l ↔ x ∈ l
 | [], _ => Iff.rfl
 | [x], _ => Iff.rfl
 | x :: y :: r, z => by
  have ih := dd_mem (y :: r) z
  unfold dd
  by_cases h : x = y
  ·subst h; simp only [decide_true, cond_true, ih]; simp
  ·simp only [h, decide_false, cond_false, List.mem_cons (a := z) (b := x), ih]
theorem dd_rise : ∀ {l : List P2}, l.Pairwise (fun a b => plt b a = false) → Rise (dd l)
 | [], _ => List.Pairwise.nil
 | [x], _ => by simp [dd, Rise]
 | x :: y :: r, h => by
  obtain ⟨h1, h2⟩ := List.pairwise_cons.1 h
  have ih := dd_rise h2
  unfold dd
  by_cases e : x = y
  ·subst e; simpa using ih
  ·simp only [e, decide_false, cond_false]
   refine List.pairwise_cons.2 ⟨fun z hz => ?_, ih⟩
   have hxy : plt x y = true := by
    cases hc : plt x y with
    | true => rfl
    | false => exact absurd (plt_total hc (h1 y (by simp))) e
   rcases List.mem_cons.1 ((dd_mem (y :: r) z).1 hz) with rfl | hz
   ·exact hxy
   ·have := (List.pairwise_cons.1 h2).1 z hz
    cases hc : plt x z with
    | true => rfl
    | false =>
     have hzx := h1 z (by simp [hz])
     have e2 := plt_total hc hzx
     rw [← e2, hxy] at this
     cases this
theorem lks_eq (l m : List P2) (hm : m.Pairwise fun a b => plt b a = false) (hmem : ∀ x, x ∈ m ↔ x ∈ lnk l) : dd m = puts l :=
 rise_ext (dd_rise hm) (puts_rise l) fun x => by rw [dd_mem, hmem, puts_mem]
theorem puts_cn (l : List P2) (a b : Int) : Cn (puts l) a b ↔ Cn l a b := by
 constructor
 ·intro h
  refine h.mono fun p hp => ?_
  obtain ⟨q, hq, _, e⟩ := mem_lnk.1 ((puts_mem l p).1 hp)
  have hc := Cn.pair hq
  rw [← e]
  unfold nrm
  rcases Int.le_total q.1 q.2 with h1 | h1
  ·rw [Int.min_eq_left h1, Int.max_eq_right h1]; exact hc
  ·rw [Int.min_eq_right h1, Int.max_eq_left h1]; exact hc.symm
 ·intro h
  refine h.mono fun p hp => ?_
  by_cases e : p.1 = p.2
  ·rw [e]; exact Cn.refl _ _
  ·have hm := (puts_mem l (nrm p)).2 (mem_lnk.2 ⟨p, hp, e, rfl⟩)
   have hc := Cn.pair hm
   unfold nrm at hc
   rcases Int.le_total p.1 p.2 with h1 | h1
   ·simp only [Int.min_eq_left h1, Int.max_eq_right h1] at hc; exact hc
   ·simp only [Int.min_eq_right h1, Int.max_eq_left h1] at hc; exact hc.symm
end Go.Proofs.Ytagkpcnedccaiaa

namespace Go.Proofs.Ytagkpcnedccaiaa
open Go.RowKit
set_option maxRecDepth 20000
set_option linter.unusedVariables false
set_option linter.unusedSimpArgs false

/-- No block but g has turned, and none is new. -/
structure Wr (g : Nat) (w w' : World) : Prop where
 size : w'.heap.size = w.heap.size
 blk : ∀ k, k ≠ g → w'.heap[k]? = w.heap[k]?
 bel : ∀ N W, N ≤ g → Below N W w → Below N W w'
theorem Wr.refl (g : Nat) (w : World) : Wr g w w := ⟨rfl, fun _ _ => rfl, fun _ _ _ h => h⟩
theorem Wr.trans {g : Nat} {a b c : World} (h : Wr g a b) (k : Wr g b c) : Wr g a c :=
 ⟨k.size.trans h.size, fun j hj => (k.blk j hj).trans (h.blk j hj), fun N W hN hB => k.bel N W hN (h.bel N W hN hB)⟩
theorem Wr.set (g j : Nat) (v : Value) (w : World) : Wr g w (w.setCell ⟨g, j, none⟩ v) :=
 ⟨by simp, fun k hk => Below.heap_setCell w ⟨g, j, none⟩ v k hk, fun N W hN hB => hB.setCell hN v⟩
theorem Wr.drew (g : Nat) (w : World) : Wr g w w.drew := ⟨rfl, fun _ _ => rfl, fun _ _ _ h => h.drew⟩
theorem Wr.cell {g b j : Nat} {w w' : World} (h : Wr g w w') (hb : b ≠ g) : w'.cell? ⟨b, j, none⟩ = w.cell? ⟨b, j, none⟩ := World.cell?_of_block (w := w) (h.blk b hb)
theorem Wr.below {g : Nat} {w w' : World} (h : Wr g w w') : Below g w w' := h.bel g w (Nat.le_refl _) (Below.refl _ _)

/-- A row of numbers of a call's own. -/
def OwnI (w : World) (base : Nat) (v : Value) (l : List Int) : Prop := w.ownsRow base 3 1 v l.length (l.map (Value.int .i64))
theorem OwnI.step {w w' : World} {base : Nat} {v : Value} {l : List Int} (h : OwnI w base v l) (hw : Below w.heap.size w w') : OwnI w' base v l := by
 obtain ⟨hl, h0 | ⟨g, c, cur, hv, hb, hg, hr⟩⟩ := h
 ·exact ⟨hl, .inl h0⟩
 ·exact ⟨hl, .inr ⟨g, c, cur, hv, hb, heap_step hg hw, hr⟩⟩
theorem OwnI.base {w : World} {b b' : Nat} {v : Value} {l : List Int} (h : OwnI w b v l) (hb : b' ≤ b) : OwnI w b' v l := by
 obtain ⟨hl, h0 | ⟨g, c, cur, hv, hg0, hg, hr⟩⟩ := h
 ·exact ⟨hl, .inl h0⟩
 ·exact ⟨hl, .inr ⟨g, c, cur, hv, Nat.le_trans hb hg0, hg, hr⟩⟩
theorem OwnI.slice {w : World} {base : Nat} {v : Value} {l : List Int} (h : OwnI w base v l) : (v = .slice none 0 0 ∧ l = []) ∨ ∃ g c, v = .slice (some ⟨g, 0, none⟩) l.length c ∧ base ≤ g ∧ g < w.heap.size ∧ l.length ≤ c := by
 obtain ⟨hl, ⟨h0, h1⟩ | ⟨g, c, cur, hv, hb, hg, hc, _⟩⟩ := h
 ·exact .inl ⟨h0, List.eq_nil_of_length_eq_zero h1⟩
 ·exact .inr ⟨g, c, hv, hb, heap_lt hg, hc⟩
theorem OwnI.n {w : World} {base g n c : Nat} {l : List Int} (h : OwnI w base (.slice (some ⟨g, 0, none⟩) n c) l) : n = l.length ∧ base ≤ g ∧ g < w.heap.size ∧ n ≤ c := by
 rcases h.slice with ⟨h0, _⟩ | ⟨g', c', hv, hb, hg, hc⟩
 ·cases h0
 ·simp only [Value.slice.injEq, Option.some.injEq, Addr.mk.injEq, and_true] at hv
  obtain ⟨rfl, rfl, rfl⟩ := hv
  exact ⟨rfl, hb, hg, hc⟩
theorem OwnI.cell {w : World} {base g n c : Nat} {l : List Int} (h : OwnI w base (.slice (some ⟨g, 0, none⟩) n c) l) (i : Nat) (x : Int) (hi : l[i]? = some x) : w.cell? ⟨g, i, none⟩ = some (.int .i64 x) := by
 have hn := h.n.1
 have hl : i < l.length := (List.getElem?_eq_some_iff.1 hi).1
 subst hn
 have h' : w.ownsRow base 3 1 (.slice (some ⟨g, 0, none⟩) l.length c) l.length (l.map (Value.int .i64)) := h
 rw [h'.cellAt i (by omega), List.getElem?_map, hi]; rfl
theorem OwnI.put {w : World} {base g n c : Nat} {l : List Int} (h : OwnI w base (.slice (some ⟨g, 0, none⟩) n c) l) (i : Nat) (x : Int) : OwnI (w.setCell ⟨g, i, none⟩ (.int .i64 x)) base (.slice (some ⟨g, 0, none⟩) n c) (l.set i x) := by
 have hn := h.n.1
 subst hn
 have h' : w.ownsRow base 3 1 (.slice (some ⟨g, 0, none⟩) l.length c) l.length (l.map (Value.int .i64)) := h
 unfold OwnI
 rw [List.length_set, List.map_set]
 exact (World.ownsRow.stored h' i (.int .i64 x)).1
theorem OwnI.frozen {w : World} {base g n c : Nat} {l : List Int} (h : OwnI w base (.slice (some ⟨g, 0, none⟩) n c) l) (j : Nat) : w.frozen? ⟨g, j, none⟩ = false := by
 have hn := h.n.1
 subst hn
 exact World.ownsRow.frozenAt h j
theorem OwnI.wr {w w' : World} {base g : Nat} {v : Value} {l : List Int} (h : OwnI w base v l) (hv : v.ownBlock ≠ some g) (hw : Wr g w w') : OwnI w' base v l := by
 obtain ⟨hl, h0 | ⟨g', c, cur, hv', hb, hg, hr⟩⟩ := h
 ·exact ⟨hl, .inl h0⟩
 ·refine ⟨hl, .inr ⟨g', c, cur, hv', hb, (hw.blk g' ?_).trans hg, hr⟩⟩
  rintro rfl
  rw [hv'] at hv
  exact hv rfl
/-- The numbers below n, each with what a function says of it. -/
def rowF (n : Nat) (d : Nat → Nat) : List Int := (List.range n).map fun x => ((d x : Nat) : Int)
theorem rowF_len (n : Nat) (d : Nat → Nat) : (rowF n d).length = n := by simp [rowF]
theorem rowF_get (n : Nat) (d : Nat → Nat) (i : Nat) (h : i < n) : (rowF n d)[i]? = some ((d i : Nat) : Int) := by simp [rowF, h]
def updF (d : Nat → Nat) (i x : Nat) : Nat → Nat := fun y => if y = i then x else d y
theorem rowF_set (n : Nat) (d : Nat → Nat) (i x : Nat) : (rowF n d).set i (x : Int) = rowF n (updF d i x) := by
 apply List.ext_getElem?
 intro j
 rw [List.getElem?_set]
 by_cases hj : j < n
 ·have e1 := rowF_get n (updF d i x) j hj
  have e2 := rowF_get n d j hj
  rw [rowF_len, e1, e2]
  by_cases hij : i = j
  ·subst hij; rw [if_pos rfl, if_pos hj]; simp [updF]
  ·have : ¬ j = i := fun e => hij e.symm
   rw [if_neg hij]; simp [updF, this]
 ·have h1 : (rowF n (updF d i x))[j]? = none := List.getElem?_eq_none (by rw [rowF_len]; omega)
  have h2 : (rowF n d)[j]? = none := List.getElem?_eq_none (by rw [rowF_len]; omega)
  rw [h1, h2, rowF_len]
  by_cases hij : i = j
  ·subst hij; rw [if_pos rfl, if_neg hj]
  ·rw [if_neg hij]
theorem rowF_congr {n : Nat} {d e : Nat → Nat} (h : ∀ x, x < n → d x = e x) : rowF n d = rowF n e := by
 unfold rowF
 refine List.map_congr_left fun x hx => ?_
 rw [h x (List.mem_range.1 hx)]
theorem rowF_snoc (n : Nat) (d : Nat → Nat) : rowF (n + 1) d = rowF n d ++ [((d n : Nat) : Int)] := by simp [rowF, List.range_succ]

/-- A row of pairs that was handed in, or that a call has made. -/
def PS (w : World) (q : Option Addr) (n c : Nat) (l : List P2) : Prop :=
 n = l.length ∧ (n = 0 ∨ ∃ g o, q = some ⟨g, o, none⟩ ∧ n ≤ c ∧ g < w.heap.size ∧ ∀ i p, l[i]? = some p → w.cell? ⟨g, o + i * 2, none⟩ = some (.int .i64 p.1) ∧ w.cell? ⟨g, o + i * 2 + 1, none⟩ = some (.int .i64 p.2))
theorem PS.step {w w1 : World} {q : Option Addr} {n c : Nat} {l : List P2} (h : PS w q n c l) (hw : Below w.heap.size w w1) : PS w1 q n c l := by
 obtain ⟨hn, h0 | ⟨g, o, hq, hc, hg, hat⟩⟩ := h
 ·exact ⟨hn, .inl h0⟩
 ·exact ⟨hn, .inr ⟨g, o, hq, hc, Nat.lt_of_lt_of_le hg hw.size, fun i p hi => ⟨(hw.cell (p := ⟨g, _, none⟩) hg).trans (hat i p hi).1, (hw.cell (p := ⟨g, _, none⟩) hg).trans (hat i p hi).2⟩⟩⟩
def pc (p : P2) : List Value := [.int .i64 p.1, .int .i64 p.2]
def pcells (l : List P2) : List Value := l.flatMap pc
theorem pcells_length (l : List P2) : (pcells l).length = l.length * 2 := by
 induction l with
 | nil => rfl
 | cons v r ih => simp only [pcells, List.flatMap_cons, List.length_append] at *; rw [ih]; simp [pc]; omega
theorem pcells_append (a b : List P2) : pcells (a ++ b) = pcells a ++ pcells b := by simp [pcells]
theorem pcells_get (l : List P2) (j : Nat) (v : P2) (h : l[j]? = some v) (r : Nat) (hr : r < 2) : (pcells l)[j * 2 + r]? = (pc v)[r]? := by
 induction l generalizing j with
 | nil => simp at h
 | cons x t ih =>
  have hx : (pc x).length = 2 := rfl
  simp only [pcells, List.flatMap_cons] at *
  cases j with
  | zero =>
   simp only [List.getElem?_cons_zero, Option.some.injEq] at h
   subst h
   rw [Nat.zero_mul, Nat.zero_add, List.getElem?_append_left (by omega)]
  | succ j =>
   simp only [List.getElem?_cons_succ] at h
   rw [List.getElem?_append_right (by omega), show (j + 1) * 2 + r - (pc x).length = j * 2 + r by omega]
   exact ih j h
/-- A row of pairs (of element type T) of a call's own. -/
def OwnP (T : TypeId) (w : World) (base : Nat) (v : Value) (l : List P2) : Prop := w.ownsRow base T 2 v l.length (pcells l)
theorem OwnP.step {T : TypeId} {w w' : World} {base : Nat} {v : Value} {l : List P2} (h : OwnP T w base v l) (hw : Below w.heap.size w w') : OwnP T w' base v l := by
 obtain ⟨hl, h0 | ⟨g, c, cur, hv, hb, hg, hr⟩⟩ := h
 ·exact ⟨hl, .inl h0⟩
 ·exact ⟨hl, .inr ⟨g, c, cur, hv, hb, heap_step hg hw, hr⟩⟩
theorem OwnP.base {T : TypeId} {w : World} {b b' : Nat} {v : Value} {l : List P2} (h : OwnP T w b v l) (hb : b' ≤ b) : OwnP T w b' v l := by
 obtain ⟨hl, h0 | ⟨g, c, cur, hv, hg0, hg, hr⟩⟩ := h
 ·exact ⟨hl, .inl h0⟩
 ·exact ⟨hl, .inr ⟨g, c, cur, hv, Nat.le_trans hb hg0, hg, hr⟩⟩
theorem OwnP.slice {T : TypeId} {w : World} {base : Nat} {v : Value} {l : List P2} (h : OwnP T w base v l) : (v = .slice none 0 0 ∧ l = []) ∨ ∃ g c, v = .slice (some ⟨g, 0, none⟩) l.length c ∧ base ≤ g ∧ g < w.heap.size ∧ l.length ≤ c := by
 obtain ⟨hl, ⟨h0, h1⟩ | ⟨g, c, cur, hv, hb, hg, hc, _⟩⟩ := h
 ·exact .inl ⟨h0, List.eq_nil_of_length_eq_zero h1⟩
 ·exact .inr ⟨g, c, hv, hb, heap_lt hg, hc⟩
theorem OwnP.cells {T : TypeId} {w : World} {base g c : Nat} {l : List P2} (h : OwnP T w base (.slice (some ⟨g, 0, none⟩) l.length c) l) (i : Nat) (p : P2) (hi : l[i]? = some p) : w.cell? ⟨g, i * 2, none⟩ = some (.int .i64 p.1) ∧ w.cell? ⟨g, i * 2 + 1, none⟩ = some (.int .i64 p.2) := by
 have hl : i < l.length := (List.getElem?_eq_some_iff.1 hi).1
 have h' : w.ownsRow base T 2 (.slice (some ⟨g, 0, none⟩) l.length c) l.length (pcells l) := h
 have key : ∀ r v, r < 2 → (pc p)[r]? = some v → w.cell? ⟨g, i * 2 + r, none⟩ = some v := fun r v hr hv => by
  rw [h'.cellAt (i * 2 + r) (by omega), pcells_get l i p hi r hr, hv]
 exact ⟨key 0 _ (by omega) rfl, key 1 _ (by omega) rfl⟩
theorem OwnP.ps {T : TypeId} {w : World} {base : Nat} {v : Value} {l : List P2} (h : OwnP T w base v l) : ∃ q n c, v = .slice q n c ∧ PS w q n c l := by
 rcases h.slice with ⟨rfl, rfl⟩ | ⟨g, c, rfl, hb, hg, hc⟩
 ·exact ⟨none, 0, 0, rfl, rfl, .inl rfl⟩
 ·refine ⟨some ⟨g, 0, none⟩, _, c, rfl, rfl, .inr ⟨g, 0, rfl, hc, hg, fun i p hi => ?_⟩⟩
  have := h.cells i p hi
  simpa using this
theorem OwnP.snoc {T : TypeId} {w : World} {base : Nat} {v : Value} {l : List P2} {p : P2} (h : w.ownsRow base T 2 v (l.length + 1) (pcells l ++ pc p)) : OwnP T w base v (l ++ [p]) := by
 unfold OwnP
 rw [List.length_append, pcells_append]
 simpa [pcells] using h
theorem OwnI.snoc {w : World} {base : Nat} {v : Value} {l : List Int} {x : Int} (h : w.ownsRow base 3 1 v (l.length + 1) (l.map (Value.int .i64) ++ [Value.int .i64 x])) : OwnI w base v (l ++ [x]) := by
 unfold OwnI
 rw [List.length_append, List.map_append]
 exact h
theorem OwnI.nil (w : World) (base : Nat) : OwnI w base (.slice none 0 0) [] := World.ownsRow_nil _ _ _ _
theorem OwnP.nil (T : TypeId) (w : World) (base : Nat) : OwnP T w base (.slice none 0 0) [] := World.ownsRow_nil _ _ _ _
theorem one_new (w : World) (v : Value) (T : TypeId) : ∀ j u, [v][j]? = some u → (w.alloc (.cells #[v] T)).cell? ((⟨w.heap.size, 0, none⟩ : Addr).add j) = some u := by
 intro j u h
 match j, h with
 | 0, h => simp at h; subst h; simp [Addr.add, go_sem]
 | j + 1, h => simp at h
theorem one_cell (k : IntKind) (x : Int) : ∀ u ∈ [Value.int k x], u.oneCell' = true := by
 intro u h; simp at h; subst h; rfl
theorem addr_add' (b i j : Nat) : (⟨b, i, none⟩ : Addr).add j = ⟨b, i + j, none⟩ := by
 unfold Addr.add; split <;> simp_all
theorem newp (T : TypeId) (w : World) (p : P2) : ∀ j u, (pc p)[j]? = some u → (w.alloc (.cells #[.int .i64 p.1, .int .i64 p.2] T)).cell? ((⟨w.heap.size, 0, none⟩ : Addr).add j) = some u := fun j u h => by
 rw [addr_add', cellH (heap_new w _), ← h, Nat.zero_add]
 match j with
 | 0 => rfl
 | 1 => rfl
 | j + 2 => simp [pc]
theorem onep (p : P2) : ∀ u ∈ pc p, u.oneCell' = true := fun u hu => by
 simp only [pc, List.mem_cons, List.not_mem_nil, or_false] at hu
 rcases hu with rfl | rfl <;> rfl
end Go.Proofs.Ytagkpcnedccaiaa
