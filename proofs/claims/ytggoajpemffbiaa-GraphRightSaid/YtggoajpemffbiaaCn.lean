/-
  What pairs link: plain facts on relations, least numbers of classes, and rows of pairs in order.
-/
namespace Go.Proofs.Ytggoajpemffbiaa

abbrev P2 := Int × Int
/-- No set that pairs do not leave parts a and b. -/
def Cn (l : List P2) (a b : Int) : Prop := ∀ S : Int → Prop, (∀ p ∈ l, (S p.1 ↔ S p.2)) → (S a ↔ S b)
theorem Cn.refl (l : List P2) (a : Int) : Cn l a a := fun _ _ => Iff.rfl
theorem Cn.symm {l : List P2} {a b : Int} (h : Cn l a b) : Cn l b a := fun S hS => (h S hS).symm
theorem Cn.trans {l : List P2} {a b c : Int} (h : Cn l a b) (g : Cn l b c) : Cn l a c := fun S hS => (h S hS).trans (g S hS)
theorem Cn.pair {l : List P2} {p : P2} (h : p ∈ l) : Cn l p.1 p.2 := fun _ hS => hS p h
theorem Cn.mono {l m : List P2} {a b : Int} (h : Cn l a b) (hm : ∀ p ∈ l, Cn m p.1 p.2) : Cn m a b := fun S hS => h S fun p hp => hm p hp S hS
theorem Cn.sub {l m : List P2} {a b : Int} (h : Cn l a b) (hm : ∀ p ∈ l, p ∈ m) : Cn m a b := h.mono fun p hp => .pair (hm p hp)
theorem Cn.of {α : Type} {l : List P2} {a b : Int} (h : Cn l a b) (f : Int → α) (hf : ∀ p ∈ l, f p.1 = f p.2) : f a = f b :=
  ((h (fun z => f z = f b) fun p hp => by rw [hf p hp]).2 rfl)

/-- The classes of a and b made one, each told by its least number. -/
def mrg (r : Nat → Nat) (a b : Nat) : Nat → Nat := fun x => if r x = r a ∨ r x = r b then min (r a) (r b) else r x
def inR (n : Nat) (p : P2) : Bool := decide (0 ≤ p.1) && decide (p.1 < n) && decide (0 ≤ p.2) && decide (p.2 < n)
theorem inR_iff (n : Nat) (p : P2) : inR n p = true ↔ 0 ≤ p.1 ∧ p.1 < n ∧ 0 ≤ p.2 ∧ p.2 < n := by simp [inR, and_assoc]
def vl (n : Nat) (l : List P2) : List P2 := l.filter (inR n)
def mrgP (n : Nat) (r : Nat → Nat) (p : P2) : Nat → Nat := bif inR n p then mrg r p.1.toNat p.2.toNat else r
def cls (n : Nat) (l : List P2) : Nat → Nat := l.foldl (mrgP n) id
theorem cls_snoc (n : Nat) (l : List P2) (p : P2) : cls n (l ++ [p]) = mrgP n (cls n l) p := by simp [cls]

/-- What classes are. -/
structure UF (n : Nat) (l : List P2) (r : Nat → Nat) : Prop where
  le : ∀ x, r x ≤ x
  idem : ∀ x, r (r x) = r x
  closed : ∀ p ∈ l, inR n p = true → r p.1.toNat = r p.2.toNat
  sound : ∀ x : Nat, x < n → Cn (vl n l) x (r x : Nat)
theorem mrg_le {r : Nat → Nat} (h : ∀ x, r x ≤ x) (a b x : Nat) : mrg r a b x ≤ x := by
  unfold mrg
  have := h x
  split
  · rename_i h1; rcases h1 with h1 | h1 <;> omega
  · exact this
theorem mrg_idem {r : Nat → Nat} (h : ∀ x, r (r x) = r x) (a b x : Nat) : mrg r a b (mrg r a b x) = mrg r a b x := by
  have key : ∀ y, (r y = r a ∨ r y = r b) → mrg r a b y = min (r a) (r b) := fun y hy => by unfold mrg; rw [if_pos hy]
  by_cases h1 : r x = r a ∨ r x = r b
  · rw [key x h1]
    refine key _ ?_
    rcases Nat.le_total (r a) (r b) with hab | hab
    · left; rw [Nat.min_eq_left hab, h a]
    · right; rw [Nat.min_eq_right hab, h b]
  · have e : mrg r a b x = r x := by unfold mrg; rw [if_neg h1]
    rw [e]
    unfold mrg
    rw [h x, if_neg h1]
theorem mrg_eq {r : Nat → Nat} {x y : Nat} (h : r x = r y) (a b : Nat) : mrg r a b x = mrg r a b y := by unfold mrg; rw [h]
theorem mrg_ab (r : Nat → Nat) (a b : Nat) : mrg r a b a = mrg r a b b := by unfold mrg; rw [if_pos (.inl rfl), if_pos (.inr rfl)]
theorem UF.start (n : Nat) : UF n [] id := ⟨fun _ => Nat.le_refl _, fun _ => rfl, fun p hp => by simp at hp, fun x _ => Cn.refl _ _⟩
theorem vl_snoc (n : Nat) (l : List P2) (p : P2) : vl n (l ++ [p]) = vl n l ++ (bif inR n p then [p] else []) := by
  simp only [vl, List.filter_append]
  congr 1
theorem UF.next {n : Nat} {l : List P2} {r : Nat → Nat} (h : UF n l r) (p : P2) : UF n (l ++ [p]) (mrgP n r p) := by
  have hsub : ∀ q ∈ vl n l, q ∈ vl n (l ++ [p]) := fun q hq => by rw [vl_snoc]; exact List.mem_append_left _ hq
  unfold mrgP
  cases hp : inR n p with
  | false =>
    refine ⟨h.le, h.idem, fun q hq hin => ?_, fun x hx => (h.sound x hx).sub hsub⟩
    rcases List.mem_append.1 hq with hq | hq
    · exact h.closed q hq hin
    · simp only [List.mem_singleton] at hq; subst hq; rw [hp] at hin; cases hin
  | true =>
    obtain ⟨h0, h1, h2, h3⟩ := (inR_iff n p).1 hp
    refine ⟨mrg_le h.le _ _, mrg_idem h.idem _ _, fun q hq hin => ?_, fun x hx => ?_⟩
    · rcases List.mem_append.1 hq with hq | hq
      · exact mrg_eq (h.closed q hq hin) _ _
      · simp only [List.mem_singleton] at hq; subst hq; exact mrg_ab _ _ _
    · have hpm : p ∈ vl n (l ++ [p]) := by rw [vl_snoc, hp]; simp
      have ea : ((p.1.toNat : Nat) : Int) = p.1 := by omega
      have eb : ((p.2.toNat : Nat) : Int) = p.2 := by omega
      have ca : Cn (vl n (l ++ [p])) p.1 (r p.1.toNat : Nat) := by
        have := (h.sound p.1.toNat (by omega)).sub hsub; rwa [ea] at this
      have cb : Cn (vl n (l ++ [p])) p.2 (r p.2.toNat : Nat) := by
        have := (h.sound p.2.toNat (by omega)).sub hsub; rwa [eb] at this
      have cx := (h.sound x hx).sub hsub
      have cab : Cn (vl n (l ++ [p])) (r p.1.toNat : Nat) (r p.2.toNat : Nat) := ca.symm.trans ((Cn.pair hpm).trans cb)
      show Cn _ _ ((mrg r p.1.toNat p.2.toNat x : Nat) : Int)
      unfold mrg
      split
      · rename_i hr
        have cm : Cn (vl n (l ++ [p])) (r p.1.toNat : Nat) ((min (r p.1.toNat) (r p.2.toNat) : Nat) : Int) := by
          rcases Nat.le_total (r p.1.toNat) (r p.2.toNat) with hab | hab
          · rw [Nat.min_eq_left hab]; exact Cn.refl _ _
          · rw [Nat.min_eq_right hab]; exact cab
        rcases hr with hr | hr
        · rw [hr] at cx; exact cx.trans cm
        · rw [hr] at cx; exact cx.trans (cab.symm.trans cm)
      · exact cx
theorem cls_uf (n : Nat) (l : List P2) : UF n l (cls n l) := by
  have key : ∀ (m l : List P2) (r : Nat → Nat), UF n l r → UF n (l ++ m) (m.foldl (mrgP n) r) := by
    intro m
    induction m with
    | nil => intro l r h; simpa using h
    | cons p m ih =>
      intro l r h
      have := ih (l ++ [p]) _ (h.next p)
      simpa using this
  have := key l [] id (UF.start n)
  simpa [cls] using this
theorem UF.cn {n : Nat} {l : List P2} {r : Nat → Nat} (h : UF n l r) {x y : Int} (hc : Cn (vl n l) x y) : r x.toNat = r y.toNat :=
  hc.of (fun z => r z.toNat) fun p hp => h.closed p (List.mem_filter.1 hp).1 (List.mem_filter.1 hp).2
theorem UF.same {n : Nat} {l : List P2} {r : Nat → Nat} (h : UF n l r) {x y : Nat} (hx : x < n) (hy : y < n) (e : r x = r y) : Cn (vl n l) x y := by
  have a := h.sound x hx
  have b := h.sound y hy
  rw [e] at a
  exact a.trans b.symm

/-- One look at a pair: both its numbers get the lesser one of what they have. -/
def low (n : Nat) (f : Nat → Nat) (p : P2) : Nat → Nat := bif inR n p then fun x => if x = p.1.toNat ∨ x = p.2.toNat then min (f p.1.toNat) (f p.2.toNat) else f x else f
def lowAll (n : Nat) (l : List P2) (f : Nat → Nat) : Nat → Nat := l.foldl (low n) f
def lows (n : Nat) (l : List P2) : Nat → Nat → Nat
  | 0 => id
  | k + 1 => lowAll n l (lows n l k)
/-- What stands between the least numbers and where they start. -/
structure Lw (n : Nat) (l : List P2) (f : Nat → Nat) : Prop where
  sound : ∀ x : Nat, x < n → Cn (vl n l) x (f x : Nat)
  le : ∀ x, f x ≤ x
theorem Lw.ge {n : Nat} {l : List P2} {f : Nat → Nat} (h : Lw n l f) {x : Nat} (hx : x < n) : cls n l x ≤ f x := by
  have := (cls_uf n l).cn (h.sound x hx)
  simp only [Int.toNat_natCast] at this
  rw [this]; exact (cls_uf n l).le _
theorem low_le (n : Nat) (f : Nat → Nat) (p : P2) (x : Nat) : low n f p x ≤ f x := by
  unfold low
  cases inR n p with
  | false => exact Nat.le_refl _
  | true =>
    show (if x = p.1.toNat ∨ x = p.2.toNat then min (f p.1.toNat) (f p.2.toNat) else f x) ≤ f x
    split
    · rename_i h; rcases h with h | h <;> subst h <;> omega
    · exact Nat.le_refl _
theorem Lw.next {n : Nat} {l : List P2} {f : Nat → Nat} (h : Lw n l f) {p : P2} (hp : p ∈ l) : Lw n l (low n f p) := by
  refine ⟨fun x hx => ?_, fun x => Nat.le_trans (low_le n f p x) (h.le x)⟩
  unfold low
  cases hin : inR n p with
  | false => exact h.sound x hx
  | true =>
    obtain ⟨h0, h1, h2, h3⟩ := (inR_iff n p).1 hin
    have hpm : p ∈ vl n l := List.mem_filter.2 ⟨hp, hin⟩
    have ea : ((p.1.toNat : Nat) : Int) = p.1 := by omega
    have eb : ((p.2.toNat : Nat) : Int) = p.2 := by omega
    have ca := h.sound p.1.toNat (by omega)
    have cb := h.sound p.2.toNat (by omega)
    rw [ea] at ca; rw [eb] at cb
    have cp := Cn.pair hpm
    show Cn _ _ ((if x = p.1.toNat ∨ x = p.2.toNat then min (f p.1.toNat) (f p.2.toNat) else f x : Nat) : Int)
    split
    · rename_i hr
      rcases Nat.le_total (f p.1.toNat) (f p.2.toNat) with hab | hab
      · rw [Nat.min_eq_left hab]
        rcases hr with rfl | rfl
        · rw [ea]; exact ca
        · rw [eb]; exact cp.symm.trans ca
      · rw [Nat.min_eq_right hab]
        rcases hr with rfl | rfl
        · rw [ea]; exact cp.trans cb
        · rw [eb]; exact cb
    · exact h.sound x hx
theorem lowAll_le (n : Nat) : ∀ (m : List P2) (f : Nat → Nat) (x : Nat), lowAll n m f x ≤ f x
  | [], _, _ => Nat.le_refl _
  | p :: m, f, x => Nat.le_trans (lowAll_le n m (low n f p) x) (low_le n f p x)
theorem Lw.nexts {n : Nat} {l : List P2} : ∀ (m : List P2) {f : Nat → Nat}, Lw n l f → (∀ p ∈ m, p ∈ l) → Lw n l (lowAll n m f)
  | [], _, h, _ => h
  | p :: m, _, h, hm => Lw.nexts m (h.next (hm p (by simp))) (fun q hq => hm q (by simp [hq]))
theorem Lw.start (n : Nat) (l : List P2) : Lw n l id := ⟨fun _ _ => Cn.refl _ _, fun _ => Nat.le_refl _⟩
theorem lows_lw (n : Nat) (l : List P2) : ∀ k, Lw n l (lows n l k)
  | 0 => Lw.start n l
  | k + 1 => (lows_lw n l k).nexts l fun _ h => h
/-- A pair of which one has its least number gives it to the other one. -/
theorem low_gives {n : Nat} {l : List P2} {f : Nat → Nat} (h : Lw n l f) {p : P2} (hp : p ∈ l) (hin : inR n p = true) (hd : f p.1.toNat = cls n l p.1.toNat ∨ f p.2.toNat = cls n l p.2.toNat) :
    low n f p p.1.toNat = cls n l p.1.toNat ∧ low n f p p.2.toNat = cls n l p.2.toNat := by
  obtain ⟨h0, h1, h2, h3⟩ := (inR_iff n p).1 hin
  have e := (cls_uf n l).closed p hp hin
  have ga := h.ge (x := p.1.toNat) (by omega)
  have gb := h.ge (x := p.2.toNat) (by omega)
  unfold low
  rw [hin]
  show (if p.1.toNat = p.1.toNat ∨ p.1.toNat = p.2.toNat then min (f p.1.toNat) (f p.2.toNat) else f p.1.toNat) = _ ∧ (if p.2.toNat = p.1.toNat ∨ p.2.toNat = p.2.toNat then min (f p.1.toNat) (f p.2.toNat) else f p.2.toNat) = _
  rw [if_pos (.inl rfl), if_pos (.inr rfl)]
  constructor <;> omega
theorem lowAll_keeps {n : Nat} {l : List P2} : ∀ (m : List P2) {f : Nat → Nat}, Lw n l f → (∀ p ∈ m, p ∈ l) → ∀ {x : Nat}, x < n → f x = cls n l x → lowAll n m f x = cls n l x := fun m f h hm x hx e => by
  have h1 := lowAll_le n m f x
  have h2 := (h.nexts m hm).ge hx
  omega
theorem lowAll_gives {n : Nat} {l : List P2} : ∀ (m : List P2) {f : Nat → Nat}, Lw n l f → (∀ p ∈ m, p ∈ l) → ∀ p ∈ m, inR n p = true → (f p.1.toNat = cls n l p.1.toNat ∨ f p.2.toNat = cls n l p.2.toNat) → lowAll n m f p.1.toNat = cls n l p.1.toNat ∧ lowAll n m f p.2.toNat = cls n l p.2.toNat
  | [], _, _, _, p, hp, _, _ => by simp at hp
  | q :: m, f, h, hm, p, hp, hin, hd => by
    have hq := hm q (by simp)
    have hm' : ∀ p ∈ m, p ∈ l := fun r hr => hm r (by simp [hr])
    obtain ⟨h0, h1, h2, h3⟩ := (inR_iff n p).1 hin
    rcases List.mem_cons.1 hp with e | hp
    · subst e
      obtain ⟨a, b⟩ := low_gives h hq hin hd
      exact ⟨lowAll_keeps m (h.next hq) hm' (by omega) a, lowAll_keeps m (h.next hq) hm' (by omega) b⟩
    · refine lowAll_gives m (h.next hq) hm' p hp hin ?_
      rcases hd with hd | hd
      · left; exact lowAll_keeps [q] h (by simpa using hq) (by omega) hd
      · right; exact lowAll_keeps [q] h (by simpa using hq) (by omega) hd

theorem countP_le_of {α : Type} {p q : α → Bool} : ∀ {l : List α}, (∀ x ∈ l, p x = true → q x = true) → l.countP p ≤ l.countP q
  | [], _ => by simp
  | x :: l, h => by
    have ih := countP_le_of (l := l) (p := p) (q := q) fun y hy => h y (by simp [hy])
    have hx := h x (by simp)
    simp only [List.countP_cons]
    cases hp : p x <;> cases hq : q x <;> simp [hp, hq] at hx ⊢ <;> omega
theorem countP_lt_of {α : Type} {p q : α → Bool} : ∀ {l : List α}, (∀ x ∈ l, p x = true → q x = true) → (∃ x ∈ l, p x = false ∧ q x = true) → l.countP p < l.countP q
  | [], _, ⟨x, hx, _⟩ => by simp at hx
  | x :: l, h, ⟨y, hy, h1, h2⟩ => by
    have h' : ∀ z ∈ l, p z = true → q z = true := fun z hz => h z (by simp [hz])
    have le := countP_le_of h'
    simp only [List.countP_cons]
    rcases List.mem_cons.1 hy with e | hy
    · subst e; simp [h1, h2]; omega
    · have ih := countP_lt_of h' ⟨y, hy, h1, h2⟩
      have hx := h x (by simp)
      cases hp : p x <;> cases hq : q x <;> simp [hp, hq] at hx ⊢ <;> omega
def dn (n : Nat) (l : List P2) (f : Nat → Nat) (x : Nat) : Bool := decide (f x = cls n l x)
/-- Where a round gives nobody its least number, all have it. -/
theorem lows_all {n : Nat} {l : List P2} {f : Nat → Nat} (h : Lw n l f) (hno : ∀ x, x < n → dn n l (lowAll n l f) x = true → dn n l f x = true) : ∀ x, x < n → f x = cls n l x := by
  intro x hx
  have hroot : f (cls n l x) = cls n l (cls n l x) := by
    have h1 := h.le (cls n l x)
    have h2 := h.ge (x := cls n l x) (Nat.lt_of_le_of_lt ((cls_uf n l).le x) hx)
    have h3 := (cls_uf n l).idem x
    omega
  have hS := (cls_uf n l).sound x hx (fun z => dn n l f z.toNat = true) fun p hp => by
    obtain ⟨hp, hin⟩ := List.mem_filter.1 hp
    obtain ⟨h0, h1, h2, h3⟩ := (inR_iff n p).1 hin
    constructor
    · intro ha
      have := lowAll_gives l h (fun _ h => h) p hp hin (.inl (by simpa [dn] using ha))
      exact hno _ (by omega) (by simpa [dn] using this.2)
    · intro hb
      have := lowAll_gives l h (fun _ h => h) p hp hin (.inr (by simpa [dn] using hb))
      exact hno _ (by omega) (by simpa [dn] using this.1)
  have := hS.2 (by simpa [dn] using hroot)
  simpa [dn] using this
theorem lows_end {n : Nat} {l : List P2} : ∀ k, (∀ x, x < n → lows n l k x = cls n l x) ∨ k ≤ (List.range n).countP (dn n l (lows n l k))
  | 0 => .inr (Nat.zero_le _)
  | k + 1 => by
    have hlw := lows_lw n l k
    rcases lows_end (n := n) (l := l) k with h | h
    · left
      intro x hx
      exact lowAll_keeps l hlw (fun _ h => h) hx (h x hx)
    · by_cases hno : ∀ x, x < n → dn n l (lowAll n l (lows n l k)) x = true → dn n l (lows n l k) x = true
      · left
        intro x hx
        exact lowAll_keeps l hlw (fun _ h => h) hx (lows_all hlw hno x hx)
      · right
        have : ∃ x, x < n ∧ dn n l (lowAll n l (lows n l k)) x = true ∧ dn n l (lows n l k) x = false := by
          refine Classical.byContradiction fun hc => hno fun x hx h1 => ?_
          cases h2 : dn n l (lows n l k) x with
          | true => rfl
          | false => exact absurd ⟨x, hx, h1, h2⟩ hc
        obtain ⟨x, hx, h1, h2⟩ := this
        have := countP_lt_of (l := List.range n) (p := dn n l (lows n l k)) (q := dn n l (lows n l (k + 1)))
          (fun y hy hd => by
            have := lowAll_keeps l hlw (fun _ h => h) (List.mem_range.1 hy) (by simpa [dn] using hd)
            simp only [dn, decide_eq_true_eq]; exact this) ⟨x, List.mem_range.2 hx, h2, h1⟩
        omega
/-- After n + 1 rounds all have their least numbers. -/
theorem lows_cls (n : Nat) (l : List P2) (x : Nat) (hx : x < n) : lows n l (n + 1) x = cls n l x := by
  rcases lows_end (n := n) (l := l) (n + 1) with h | h
  · exact h x hx
  · have := List.countP_le_length (p := dn n l (lows n l (n + 1))) (l := List.range n)
    simp at this
    omega

/-- One look at a pair for what is met. -/
def inI (l : List Int) (x : Int) : Bool := l.any fun y => decide (y = x)
theorem inI_iff (l : List Int) (x : Int) : inI l x = true ↔ x ∈ l := by simp [inI]
def meet (m : List Int) (p : P2) : List Int := m ++ ((bif inI m p.1 && !inI m p.2 then [p.2] else []) ++ (bif inI m p.2 && !inI m p.1 then [p.1] else []))
def meetAll (l : List P2) (m : List Int) : List Int := l.foldl meet m
def meets (l : List P2) (a : Int) : Nat → List Int
  | 0 => [a]
  | k + 1 => meetAll l (meets l a k)
theorem meet_sub (m : List Int) (p : P2) : ∀ x ∈ m, x ∈ meet m p := fun _ h => List.mem_append_left _ h
theorem meetAll_sub : ∀ (l : List P2) (m : List Int), ∀ x ∈ m, x ∈ meetAll l m
  | [], _, _, h => h
  | p :: l, m, x, h => meetAll_sub l (meet m p) x (meet_sub m p x h)
theorem meet_cn {l : List P2} {a : Int} {m : List Int} (h : ∀ x ∈ m, Cn l a x) {p : P2} (hp : p ∈ l) : ∀ x ∈ meet m p, Cn l a x := by
  intro x hx
  rcases List.mem_append.1 hx with hx | hx
  · exact h x hx
  · rcases List.mem_append.1 hx with hx | hx
    · cases h1 : inI m p.1 <;> cases h2 : inI m p.2 <;> simp [h1, h2] at hx
      subst hx; exact (h _ ((inI_iff _ _).1 h1)).trans (Cn.pair hp)
    · cases h1 : inI m p.1 <;> cases h2 : inI m p.2 <;> simp [h1, h2] at hx
      subst hx; exact (h _ ((inI_iff _ _).1 h2)).trans (Cn.pair hp).symm
theorem meetAll_cn {l : List P2} {a : Int} : ∀ (q : List P2) {m : List Int}, (∀ x ∈ m, Cn l a x) → (∀ p ∈ q, p ∈ l) → ∀ x ∈ meetAll q m, Cn l a x
  | [], _, h, _ => h
  | p :: q, _, h, hq => meetAll_cn q (meet_cn h (hq p (by simp))) fun r hr => hq r (by simp [hr])
theorem meets_cn (l : List P2) (a : Int) : ∀ k, ∀ x ∈ meets l a k, Cn l a x
  | 0, x, h => by simp [meets] at h; subst h; exact Cn.refl _ _
  | k + 1, x, h => meetAll_cn l (meets_cn l a k) (fun _ h => h) x h
theorem meets_a (l : List P2) (a : Int) : ∀ k, a ∈ meets l a k
  | 0 => by simp [meets]
  | k + 1 => meetAll_sub l _ a (meets_a l a k)
theorem meet_both (m : List Int) (p : P2) (h : p.1 ∈ m ∨ p.2 ∈ m) : p.1 ∈ meet m p ∧ p.2 ∈ meet m p := by
  unfold meet
  have e1 := inI_iff m p.1
  have e2 := inI_iff m p.2
  cases h1 : inI m p.1 <;> cases h2 : inI m p.2 <;> simp [h1, h2] at e1 e2 h ⊢ <;> simp [e1, e2] at h ⊢
theorem meetAll_both : ∀ (q : List P2) {m : List Int}, ∀ p ∈ q, (p.1 ∈ m ∨ p.2 ∈ m) → p.1 ∈ meetAll q m ∧ p.2 ∈ meetAll q m
  | [], _, p, hp, _ => by simp at hp
  | r :: q, m, p, hp, h => by
    rcases List.mem_cons.1 hp with e | hp
    · subst e
      obtain ⟨a, b⟩ := meet_both m p h
      exact ⟨meetAll_sub q _ _ a, meetAll_sub q _ _ b⟩
    · refine meetAll_both q p hp ?_
      rcases h with h | h
      · exact .inl (meet_sub m r _ h)
      · exact .inr (meet_sub m r _ h)
def Shut (l : List P2) (m : List Int) : Prop := ∀ p ∈ l, (p.1 ∈ m ↔ p.2 ∈ m)
theorem meet_shut {m : List Int} {p : P2} (h : p.1 ∈ m ↔ p.2 ∈ m) : meet m p = m := by
  have e1 := inI_iff m p.1
  have e2 := inI_iff m p.2
  unfold meet
  cases h1 : inI m p.1 <;> cases h2 : inI m p.2 <;> simp [h1, h2] at e1 e2 ⊢ <;> simp [e1, e2] at h
theorem meetAll_shut : ∀ (q : List P2) {m : List Int}, Shut q m → meetAll q m = m
  | [], _, _ => rfl
  | p :: q, m, h => by
    have e := meet_shut (h p (by simp))
    show meetAll q (meet m p) = m
    rw [e]; exact meetAll_shut q fun r hr => h r (by simp [hr])
def bothIn (m : List Int) (p : P2) : Bool := inI m p.1 && inI m p.2
theorem meets_end (l : List P2) (a : Int) : ∀ k, Shut l (meets l a k) ∨ k ≤ l.countP (bothIn (meets l a k))
  | 0 => .inr (Nat.zero_le _)
  | k + 1 => by
    rcases meets_end l a k with h | h
    · left; show Shut l (meetAll l (meets l a k)); rw [meetAll_shut l h]; exact h
    · by_cases hs : Shut l (meets l a k)
      · left; show Shut l (meetAll l (meets l a k)); rw [meetAll_shut l hs]; exact hs
      · right
        have : ∃ p ∈ l, ¬ (p.1 ∈ meets l a k ↔ p.2 ∈ meets l a k) := Classical.byContradiction fun hc => hs fun p hp => Classical.byContradiction fun hn => hc ⟨p, hp, hn⟩
        obtain ⟨p, hp, hn⟩ := this
        have hor : p.1 ∈ meets l a k ∨ p.2 ∈ meets l a k := by
          by_cases h1 : p.1 ∈ meets l a k
          · exact .inl h1
          · by_cases h2 : p.2 ∈ meets l a k
            · exact .inr h2
            · exact absurd ⟨fun h => absurd h h1, fun h => absurd h h2⟩ hn
        have hb := meetAll_both l p hp hor
        have := countP_lt_of (l := l) (p := bothIn (meets l a k)) (q := bothIn (meets l a (k + 1)))
          (fun q hq hd => by
            simp only [bothIn, Bool.and_eq_true, inI_iff] at hd ⊢
            exact ⟨meetAll_sub l _ _ hd.1, meetAll_sub l _ _ hd.2⟩)
          ⟨p, hp, by
            cases hd : bothIn (meets l a k) p with
            | false => rfl
            | true => simp only [bothIn, Bool.and_eq_true, inI_iff] at hd; exact absurd ⟨fun _ => hd.2, fun _ => hd.1⟩ hn, by
            simp only [bothIn, Bool.and_eq_true, inI_iff]; exact hb⟩
        omega
/-- What is met after as many rounds as there are pairs, and one more, is what is linked. -/
theorem meets_iff (l : List P2) (a b : Int) : inI (meets l a (l.length + 1)) b = true ↔ Cn l a b := by
  have hs : Shut l (meets l a (l.length + 1)) := by
    rcases meets_end l a (l.length + 1) with h | h
    · exact h
    · have := List.countP_le_length (p := bothIn (meets l a (l.length + 1))) (l := l)
      omega
  rw [inI_iff]
  constructor
  · exact meets_cn l a _ b
  · intro h
    exact (h (fun z => z ∈ meets l a (l.length + 1)) hs).1 (meets_a l a _)
end Go.Proofs.Ytggoajpemffbiaa
