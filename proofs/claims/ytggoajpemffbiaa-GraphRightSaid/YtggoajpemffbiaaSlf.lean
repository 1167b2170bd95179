/-
  A right graph is carried to itself by the map that changes nothing: plain facts.
-/
import Derived.Test.YtggoajpemffbiaaCrs
import Derived.Test.YtggoajpemffbiaaRgt
namespace Go.Proofs.Ytggoajpemffbiaa
open Go.RowKit
set_option maxRecDepth 20000
set_option linter.unusedVariables false
set_option linter.unusedSimpArgs false

/-- The map that changes nothing. -/
def idm (n : Nat) : List Int := (List.range n).map fun (x : Nat) => (x : Int)
theorem idm_get {n i : Nat} (h : i < n) : (idm n)[i]? = some (i : Int) := by simp [idm, h]
theorem idm_len (n : Nat) : (idm n).length = n := by simp [idm]
theorem idm_in {n i : Nat} {x : Int} (h : (idm n)[i]? = some x) : i < n ∧ x = (i : Int) := by
  have hl := (List.getElem?_eq_some_iff.1 h).1
  rw [idm_len] at hl
  rw [idm_get hl] at h
  exact ⟨hl, by cases h; rfl⟩
structure RightOk (E : List Int) (L : List P2) (V : List Int) (O : List Oc) : Prop where
  len : E.length = O.length
  lenv : V.length = O.length
  e : ∀ i, i < O.length → okI O E V i = true
  l : ∀ i, i < L.length → okL O L i = true
theorem right_ok {E : List Int} {L : List P2} {V : List Int} {O : List Oc} (h : rightB E L V O = true) : RightOk E L V O := by
  unfold rightB at h
  simp only [Bool.and_eq_true, List.all_eq_true, List.mem_range] at h
  obtain ⟨⟨h1, h2⟩, h3⟩ := h
  unfold lensB at h1
  simp only [Bool.and_eq_true, decide_eq_true_eq] at h1
  exact ⟨h1.1, h1.2, h2, h3⟩
theorem RightOk.edge {E : List Int} {L : List P2} {V : List Int} {O : List Oc} (h : RightOk E L V O) {i : Nat} {e : Int} (he : E[i]? = some e) : decl O e = true := by
  have hi : i < O.length := by have := (List.getElem?_eq_some_iff.1 he).1; have := h.len; omega
  obtain ⟨o, ho⟩ : ∃ o, O[i]? = some o := ⟨_, List.getElem?_eq_getElem hi⟩
  obtain ⟨v, hv⟩ : ∃ v, V[i]? = some v := ⟨_, List.getElem?_eq_getElem (by have := h.lenv; omega)⟩
  have := h.e i hi
  rw [okI_at ho he hv] at this
  unfold okE at this
  simp only [Bool.and_eq_true] at this
  exact this.1.1.1
theorem RightOk.link {E : List Int} {L : List P2} {V : List Int} {O : List Oc} (h : RightOk E L V O) {i : Nat} {p : P2} (hp : L[i]? = some p) : decl O p.1 = true ∧ decl O p.2 = true ∧ p.1 < p.2 ∧ lessAt L p i = true := by
  have hi := (List.getElem?_eq_some_iff.1 hp).1
  have := h.l i hi
  rw [okL_at hp] at this
  unfold okP at this
  simp only [Bool.and_eq_true, decide_eq_true_eq] at this
  exact ⟨this.1.1.1.1, this.1.1.1.2, this.1.1.2, this.2⟩
theorem RightOk.rise {E : List Int} {L : List P2} {V : List Int} {O : List Oc} (h : RightOk E L V O) : Rise L := by
  have adj : ∀ (j : Nat) (p q : P2), L[j]? = some p → L[j + 1]? = some q → plt p q = true := fun j p q hp hq => by
    have := (h.link hq).2.2.2
    rwa [lessAt_at hp] at this
  have key : ∀ (d i : Nat) (p q : P2), L[i]? = some p → L[i + d + 1]? = some q → plt p q = true := by
    intro d
    induction d with
    | zero => intro i p q hp hq; exact adj i p q hp hq
    | succ d ih =>
      intro i p q hp hq
      have hl := (List.getElem?_eq_some_iff.1 hq).1
      obtain ⟨r, hr⟩ : ∃ r, L[i + d + 1]? = some r := ⟨_, List.getElem?_eq_getElem (by omega)⟩
      exact plt_trans (ih i p r hp hr) (adj (i + d + 1) r q hr (by rw [← hq]; congr 1))
  unfold Rise
  rw [List.pairwise_iff_getElem]
  intro i j hi hj hij
  exact key (j - i - 1) i _ _ (List.getElem?_eq_getElem hi) (by rw [show i + (j - i - 1) + 1 = j by omega]; exact List.getElem?_eq_getElem hj)
theorem puts_right {L : List P2} (h : Rise L) (hl : ∀ p ∈ L, p.1 < p.2) : puts L = L := by
  refine rise_ext (puts_rise L) h fun x => ?_
  rw [puts_mem, mem_lnk]
  constructor
  · rintro ⟨p, hp, _, rfl⟩
    have := hl p hp
    have e : nrm p = p := by unfold nrm; exact Prod.ext (by simp; omega) (by simp; omega)
    rw [e]; exact hp
  · intro hx
    have := hl x hx
    refine ⟨x, hx, by omega, ?_⟩
    unfold nrm; exact Prod.ext (by simp; omega) (by simp; omega)
theorem mAt_id {n i : Nat} (h : i < n) : mAt (idm n) (i : Int) = (i : Int) := mAt_at (idm_get h)
theorem mpd_id {n i : Nat} (h : i < n) : mpd (idm n) (i : Int) = true := by rw [mpd_at (idm_get h)]; simp
theorem carp_id {E : List Int} {L : List P2} {V : List Int} {O : List Oc} (h : RightOk E L V O) (hn : O.length ≤ 1000) : CarP E L E L (idm O.length) := by
  have hd : ∀ x, decl O x = true → ∃ i : Nat, x = (i : Int) ∧ i < O.length := fun x hx => by
    obtain ⟨i, o, hi, ho, _⟩ := decl_in hx
    exact ⟨i, hi, (List.getElem?_eq_some_iff.1 ho).1⟩
  have hl : ∀ p ∈ L, mpP (idm O.length) p = p := fun p hp => by
    obtain ⟨j, hj⟩ := List.mem_iff_getElem?.1 hp
    obtain ⟨h1, h2, _, _⟩ := h.link hj
    obtain ⟨a, ha, ha2⟩ := hd _ h1
    obtain ⟨b, hb, hb2⟩ := hd _ h2
    obtain ⟨p1, p2⟩ := p
    simp only at ha hb
    subst ha
    subst hb
    unfold mpP
    simp only [mAt_id ha2, mAt_id hb2]
  refine ⟨⟨by rw [idm_len, h.len], ⟨fun x hx => ?_, fun i j x hi hj _ => ?_⟩, fun i x e hi _ he => ?_, fun p hp => ?_⟩, fun i x e hi _ he => ?_, ?_⟩
  · obtain ⟨i, hi⟩ := List.mem_iff_getElem?.1 hx
    obtain ⟨h1, h2⟩ := idm_in hi
    right; omega
  · have h1 := (idm_in hi).2
    have h2 := (idm_in hj).2
    omega
  · obtain ⟨a, rfl, ha⟩ := hd e (h.edge he)
    exact mpd_id ha
  · obtain ⟨j, hj⟩ := List.mem_iff_getElem?.1 hp
    obtain ⟨h1, h2, _, _⟩ := h.link hj
    obtain ⟨a, ha, ha2⟩ := hd _ h1
    obtain ⟨b, hb, hb2⟩ := hd _ h2
    rw [ha, hb]
    exact ⟨mpd_id ha2, mpd_id hb2⟩
  · obtain ⟨h1, rfl⟩ := idm_in hi
    obtain ⟨a, rfl, ha⟩ := hd e (h.edge he)
    rw [mAt_id ha]; simpa using he
  · rw [List.map_congr_left hl]
    simp only [List.map_id']
    exact puts_right h.rise fun p hp => by
      obtain ⟨j, hj⟩ := List.mem_iff_getElem?.1 hp
      exact (h.link hj).2.2.1
end Go.Proofs.Ytggoajpemffbiaa
