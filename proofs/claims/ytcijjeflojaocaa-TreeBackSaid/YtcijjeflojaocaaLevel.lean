/-
  The levels of a branch's parts that have a token.
-/
import Derived.Test.YtcijjeflojaocaaFacts
import Derived.Test.YtcijjeflojaocaaWithin
namespace Go.Proofs.Ytcijjeflojaocaa
set_option linter.unusedVariables false
set_option linter.unusedSimpArgs false

theorem deep_flats_of {ks : List Br} (ih : ∀ b ∈ ks, ∀ up deep next stop n e, e ∈ Br.flat up deep next stop n b → e.pos = n ∧ e.deep = deep ∨ deep < e.deep) (up : Nat) (deep : Int) (stop m : Nat) : ∀ e ∈ flats up deep stop m ks, deep ≤ e.deep := by
  induction ks generalizing m with
  | nil => intro e he; simp [flats] at he
  | cons x r ih' =>
    intro e he
    simp only [flats] at he
    rcases List.mem_append.1 he with he | he
    · rcases ih x (by simp) _ _ _ _ _ e he with ⟨_, h⟩ | h <;> omega
    · exact ih' (fun b hb => ih b (by simp [hb])) _ e he
theorem deep_flat (b : Br) : ∀ up deep next stop n e, e ∈ Br.flat up deep next stop n b → e.pos = n ∧ e.deep = deep ∨ deep < e.deep := by
  induction b using Br.ind with
  | hP h ks ih =>
    intro up deep next stop n e he
    simp only [Br.flat] at he
    rcases List.mem_cons.1 he with rfl | he
    · exact .inl ⟨rfl, rfl⟩
    · have := deep_flats_of ih _ _ _ _ e he
      exact .inr (by omega)
/-- What lies strictly in a part lies deeper. -/
theorem deep_in {b : Br} {i : Nat} {e : Ent} (h : b.all[i]? = some e) {k : Nat} {e' : Ent} (hk : b.all[k]? = some e') (h1 : i < k) (h2 : k < i + e.b.size) : e.deep < e'.deep := by
  have hh := here_at h
  unfold Ent.Here at hh
  rw [pos_of_all h] at hh
  have h3 := hh (k - i) (by rw [flat_length]; omega)
  rw [show i + (k - i) = k by omega, hk] at h3
  rcases deep_flat _ _ _ _ _ _ e' (List.mem_of_getElem? h3.symm) with ⟨h4, _⟩ | h4
  · have := pos_of_all hk; omega
  · exact h4

/-- The kids of a part, by its number. -/
def kidsOf (b : Br) (i : Nat) : List Nat := match b.all[i]? with
  | some e => offs (i + 1) e.b.ks
  | none => []
def seesOf (b : Br) (tok : Int) (i : Nat) : Bool := match b.all[i]? with
  | some e => decide (e.b.h.f ≤ tok) && decide (tok < e.b.h.t)
  | none => false
theorem kidsOf_at {b : Br} {i : Nat} {e : Ent} (h : b.all[i]? = some e) : kidsOf b i = offs (i + 1) e.b.ks := by simp only [kidsOf, h]
theorem seesOf_at {b : Br} {tok : Int} {i : Nat} {e : Ent} (h : b.all[i]? = some e) : seesOf b tok i = (decide (e.b.h.f ≤ tok) && decide (tok < e.b.h.t)) := by simp only [seesOf, h]
theorem mem_level_succ {b : Br} {tok : Int} {d k : Nat} : k ∈ levels (kidsOf b) (seesOf b tok) (d + 1) ↔ ∃ n ∈ levels (kidsOf b) (seesOf b tok) d, k ∈ kidsOf b n ∧ seesOf b tok k = true := by
  simp [levels, List.mem_flatMap]
theorem level_in {b : Br} {tok : Int} (d : Nat) : ∀ n ∈ levels (kidsOf b) (seesOf b tok) d, d ≤ n ∧ ∃ e, b.all[n]? = some e ∧ e.deep = ((d + 1 : Nat) : Int) := by
  induction d with
  | zero =>
    intro n hn
    simp only [levels, List.mem_singleton] at hn
    subst hn
    have : b.all[0]? = some ⟨b, -1, 1, -1, 0, b.size⟩ := by
      show (b.flat (-1) 1 (-1) b.size 0)[0]? = _
      rw [flat_eq]; rfl
    exact ⟨Nat.le_refl _, _, this, rfl⟩
  | succ d ih =>
    intro k hk
    obtain ⟨n, hn, hkn, _⟩ := mem_level_succ.1 hk
    obtain ⟨hdn, e, he, hde⟩ := ih n hn
    rw [kidsOf_at he] at hkn
    obtain ⟨e', he', _, h4, _, h6, _⟩ := kid_of he k hkn
    exact ⟨by omega, e', he', by rw [h4, hde]; omega⟩
theorem some_lt {b : Br} {n : Nat} {e : Ent} (h : b.all[n]? = some e) : n < b.size := by
  rw [← all_length]; exact (List.getElem?_eq_some_iff.1 h).1
theorem offs_sorted (m : Nat) (ks : List Br) : (offs m ks).Pairwise (· < ·) := by
  induction ks generalizing m with
  | nil => exact List.Pairwise.nil
  | cons x r ih =>
    refine List.Pairwise.cons (fun k hk => ?_) (ih _)
    have hp := x.size_pos
    have : ∀ (ks : List Br) (m' k : Nat), k ∈ offs m' ks → m' ≤ k := by
      intro ks
      induction ks with
      | nil => intro m' k h; simp [offs] at h
      | cons y s ih =>
        intro m' k h
        simp only [offs, List.mem_cons] at h
        rcases h with rfl | h
        · exact Nat.le_refl _
        · have := ih _ _ h; omega
    have := this r _ k hk
    omega
theorem level_sorted (b : Br) (tok : Int) (d : Nat) : (levels (kidsOf b) (seesOf b tok) d).Pairwise (· < ·) := by
  induction d with
  | zero => exact List.pairwise_singleton _ _
  | succ d ih =>
    simp only [levels]
    rw [List.pairwise_flatMap]
    refine ⟨fun n hn => ?_, ?_⟩
    · obtain ⟨_, e, he, _⟩ := level_in d n hn
      rw [kidsOf_at he]
      exact (offs_sorted _ _).filter _
    · refine List.Pairwise.imp_of_mem ?_ ih
      intro n n' hn hn' hlt x hx y hy
      obtain ⟨_, e, he, hd⟩ := level_in d n hn
      obtain ⟨_, e', he', hd'⟩ := level_in d n' hn'
      have hx := (List.mem_filter.1 hx).1
      have hy := (List.mem_filter.1 hy).1
      rw [kidsOf_at he] at hx
      rw [kidsOf_at he'] at hy
      obtain ⟨ex, _, _, _, _, _, h1⟩ := kid_of he x hx
      obtain ⟨ey, _, _, _, _, h2, _⟩ := kid_of he' y hy
      have hpx := ex.b.size_pos
      have : ¬ n' < n + e.b.size := fun h => by
        have := deep_in he he' hlt h
        omega
      show x < y
      omega
theorem sorted_length {l : List Nat} {m N : Nat} (h : l.Pairwise (· < ·)) (hN : ∀ x ∈ l, m ≤ x ∧ x < N) : l.length + m ≤ max N m := by
  induction l generalizing m with
  | nil => simp; omega
  | cons x r ih =>
    have h1 := hN x (by simp)
    have h2 := List.pairwise_cons.1 h
    have := ih h2.2 (m := x + 1) (fun y hy => ⟨h2.1 y hy, (hN y (by simp [hy])).2⟩)
    simp only [List.length_cons]
    omega
theorem levels_of (b : Br) (tok : Int) (hs : b.size ≤ 1000) : Levels b.knots tok (kidsOf b) (seesOf b tok) := by
  refine ⟨fun i hi => ?_, fun i hi => ?_, fun d n hn => ?_, fun d hne => ?_, fun d => ?_⟩
  · rw [knots_length] at hi
    obtain ⟨e, he⟩ := all_some hi
    rw [knots_get he, kidsOf_at he]
    refine ⟨?_, by rw [offs_length]; have := kids_le he; omega⟩
    simp only [Ent.kn, pos_of_all he]
    exact chain_knots he
  · rw [knots_length] at hi
    obtain ⟨e, he⟩ := all_some hi
    rw [knots_get he, seesOf_at he]
    rfl
  · obtain ⟨_, e, he, _⟩ := level_in d n hn
    rw [knots_length]; exact some_lt he
  · obtain ⟨x, r, hx⟩ := List.exists_cons_of_ne_nil hne
    obtain ⟨h1, e, he, _⟩ := level_in d x (by rw [hx]; simp)
    have := some_lt he
    omega
  · have := sorted_length (m := 0) (N := b.size) (level_sorted b tok d) (fun x hx => by
      obtain ⟨_, e, he, _⟩ := level_in d x hx
      exact ⟨by omega, some_lt he⟩)
    omega
end Go.Proofs.Ytcijjeflojaocaa
