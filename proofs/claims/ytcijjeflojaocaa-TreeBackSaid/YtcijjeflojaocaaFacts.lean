/-
  Plain facts of the parts of a branch, as numbers: parents, next ones, where parts end.
-/
import Derived.Test.YtcijjeflojaocaaWalk
namespace Go.Proofs.Ytcijjeflojaocaa
set_option linter.unusedVariables false
set_option linter.unusedSimpArgs false

theorem knots_at (b : Br) (i : Nat) : b.knots[i]? = (b.all[i]?).map Ent.kn := by simp [Br.knots]
theorem knots_get {b : Br} {i : Nat} {e : Ent} (h : b.all[i]? = some e) (hi : i < b.knots.length) : b.knots[i] = e.kn := by
  have h1 := List.getElem?_eq_getElem hi
  rw [knots_at, h, Option.map_some] at h1
  exact (Option.some.inj h1).symm
theorem all_some {b : Br} {i : Nat} (hi : i < b.size) : ∃ e, b.all[i]? = some e := ⟨_, List.getElem?_eq_getElem (by rw [all_length]; exact hi)⟩
theorem chain_congr {f g : Nat → Option Int} (h : ∀ i, f i = g i) {x : Int} {ks : List Nat} (hc : Chain f x ks) : Chain g x ks := by
  induction ks generalizing x with
  | nil => exact hc
  | cons k r ih =>
    obtain ⟨h1, y, hy, h2⟩ := hc
    exact ⟨h1, y, by rw [← h]; exact hy, ih h2⟩
theorem chain_knots {b : Br} {i : Nat} {e : Ent} (h : b.all[i]? = some e) : Chain (fun i => b.knots[i]?.map Kn.next) (firstOf e.b i) (offs (i + 1) e.b.ks) :=
  chain_congr (fun j => by rw [knots_at]; cases b.all[j]? <;> rfl) (chain_at h)
theorem offs_length (m : Nat) (ks : List Br) : (offs m ks).length = ks.length := by
  induction ks generalizing m with
  | nil => rfl
  | cons x r ih => simp [offs, ih]
/-- A part's size fits in where it lies. -/
theorem end_le {b : Br} {i : Nat} {e : Ent} (h : b.all[i]? = some e) : i + e.b.size ≤ b.size := by
  have h1 := here_at h
  unfold Ent.Here at h1
  have hp := e.b.size_pos
  have := h1 (e.b.size - 1) (by rw [flat_length]; omega)
  rw [pos_of_all h] at this
  have h2 : (e.b.flat e.up e.deep e.next e.stop i)[e.b.size - 1]? ≠ none := by
    rw [Ne, List.getElem?_eq_none_iff, flat_length]; omega
  rw [← this, Ne, List.getElem?_eq_none_iff, all_length] at h2
  omega
theorem kids_le {b : Br} {i : Nat} {e : Ent} (h : b.all[i]? = some e) : e.b.ks.length + 1 ≤ b.size := by
  have := end_le h
  have h2 := sizes_len e.b.ks
  rw [Br.size_eq] at this
  omega

/-- What may be said of each entry of a flat row, by going down. -/
theorem each_flat {Q : Ent → Prop} (h0 : ∀ b up deep next stop n, Q ⟨b, up, deep, next, n, stop⟩) : ∀ b up deep next stop n, ∀ e ∈ Br.flat up deep next stop n b, Q e := fun b up deep next stop n e _ => by
  obtain ⟨b', u', d', x', n', s'⟩ := e
  exact h0 _ _ _ _ _ _
/-- Kids' entries: what they bear. -/
theorem kid_at (l : List Ent) (ks : List Br) (up : Nat) (deep : Int) (stop m : Nat) (h : Sits l m (flats up deep stop m ks)) : ∀ k ∈ offs m ks, ∃ e, l[k]? = some e ∧ e.up = (up : Int) ∧ e.deep = deep ∧ e.stop = stop ∧ e.b ∈ ks ∧ m ≤ k ∧ k + e.b.size ≤ m + sizes ks := by
  induction ks generalizing m with
  | nil => intro k hk; simp [offs] at hk
  | cons x r ih =>
    intro k hk
    simp only [flats] at h
    have h1 := h.left
    rw [flat_eq] at h1
    have h2 := h.right
    rw [flat_length] at h2
    simp only [offs, List.mem_cons] at hk
    rcases hk with rfl | hk
    · exact ⟨_, h1.head, rfl, rfl, rfl, by simp, by omega, by simp only [sizes]; omega⟩
    · obtain ⟨e, he, h3, h4, h5, h6, h7, h8⟩ := ih _ h2 k hk
      exact ⟨e, he, h3, h4, h5, by simp [h6], by omega, by simp only [sizes]; omega⟩
theorem kid_of {b : Br} {i : Nat} {e : Ent} (h : b.all[i]? = some e) : ∀ k ∈ offs (i + 1) e.b.ks, ∃ e', b.all[k]? = some e' ∧ e'.up = (i : Int) ∧ e'.deep = e.deep + 1 ∧ e'.stop = i + e.b.size ∧ i < k ∧ k + e'.b.size ≤ i + e.b.size := by
  have h1 := here_at h
  unfold Ent.Here at h1
  rw [flat_eq, pos_of_all h] at h1
  intro k hk
  obtain ⟨e', he, h3, h4, h5, h6, h7, h8⟩ := kid_at _ _ _ _ _ _ h1.tail k hk
  have := Br.size_eq e.b
  exact ⟨e', he, h3, h4, h5, by omega, by omega⟩

/-- All entries of a flat row but its first: their parents lie in it. -/
theorem up_flats_of {ks : List Br} (ih : ∀ b ∈ ks, ∀ up deep next stop n e, e ∈ Br.flat up deep next stop n b → e.pos = n ∧ e.up = up ∨ ∃ u : Nat, e.up = (u : Int) ∧ n ≤ u ∧ u < e.pos ∧ e.pos < n + b.size) (up : Nat) (deep : Int) (stop m : Nat) (hm : up < m) :
    ∀ e ∈ flats up deep stop m ks, ∃ u : Nat, e.up = (u : Int) ∧ (u = up ∨ m ≤ u) ∧ u < e.pos ∧ e.pos < m + sizes ks := by
  induction ks generalizing m with
  | nil => intro e he; simp [flats] at he
  | cons x r ih' =>
    intro e he
    have hp := x.size_pos
    simp only [flats] at he
    rcases List.mem_append.1 he with he | he
    · rcases ih x (by simp) _ _ _ _ _ e he with ⟨h1, h2⟩ | ⟨u, h1, h2, h3, h4⟩
      · exact ⟨up, h2, .inl rfl, by omega, by simp only [sizes]; omega⟩
      · exact ⟨u, h1, .inr h2, h3, by simp only [sizes]; omega⟩
    · obtain ⟨u, h1, h2, h3, h4⟩ := ih' (fun b hb => ih b (by simp [hb])) (m + x.size) (by omega) e he
      exact ⟨u, h1, by omega, h3, by simp only [sizes]; omega⟩
theorem up_flat (b : Br) : ∀ up deep next stop n e, e ∈ Br.flat up deep next stop n b → e.pos = n ∧ e.up = up ∨ ∃ u : Nat, e.up = (u : Int) ∧ n ≤ u ∧ u < e.pos ∧ e.pos < n + b.size := by
  induction b using Br.ind with
  | hP h ks ih =>
    intro up deep next stop n e he
    simp only [Br.flat] at he
    rcases List.mem_cons.1 he with rfl | he
    · exact .inl ⟨rfl, rfl⟩
    · obtain ⟨u, h1, h2, h3, h4⟩ := up_flats_of ih n (deep + 1) (n + (sizes ks + 1)) (n + 1) (by omega) e he
      exact .inr ⟨u, h1, by omega, h3, by simp only [Br.size]; omega⟩
/-- A part's parent. -/
theorem up_of {b : Br} {i : Nat} {e : Ent} (h : b.all[i]? = some e) : (i = 0 ∧ e.up = -1) ∨ ∃ u : Nat, e.up = (u : Int) ∧ u < i := by
  have hp := pos_of_all h
  rcases up_flat b _ _ _ _ _ e (List.mem_of_getElem? h) with ⟨h1, h2⟩ | ⟨u, h1, _, h3, _⟩
  · exact .inl ⟨by omega, h2⟩
  · exact .inr ⟨u, h1, by omega⟩
/-- What lies strictly in a part has its parent in it. -/
theorem up_in {b : Br} {i : Nat} {e : Ent} (h : b.all[i]? = some e) {k : Nat} {e' : Ent} (hk : b.all[k]? = some e') (h1 : i < k) (h2 : k < i + e.b.size) : ∃ u : Nat, e'.up = (u : Int) ∧ i ≤ u := by
  have hh := here_at h
  unfold Ent.Here at hh
  rw [pos_of_all h] at hh
  have h3 := hh (k - i) (by rw [flat_length]; omega)
  rw [show i + (k - i) = k by omega, hk] at h3
  rcases up_flat _ _ _ _ _ _ e' (List.mem_of_getElem? h3.symm) with ⟨h4, _⟩ | ⟨u, h4, h5, _⟩
  · have := pos_of_all hk; omega
  · exact ⟨u, h4, h5⟩
/-- A part within a part ends in it. -/
theorem end_in_flats_of {ks : List Br} (ih : ∀ b ∈ ks, ∀ up deep next stop n e, e ∈ Br.flat up deep next stop n b → e.pos + e.b.size ≤ n + b.size) (up : Nat) (deep : Int) (stop m : Nat) : ∀ e ∈ flats up deep stop m ks, e.pos + e.b.size ≤ m + sizes ks := by
  induction ks generalizing m with
  | nil => intro e he; simp [flats] at he
  | cons x r ih' =>
    intro e he
    simp only [flats] at he
    simp only [sizes]
    rcases List.mem_append.1 he with he | he
    · have := ih x (by simp) _ _ _ _ _ e he; omega
    · have := ih' (fun b hb => ih b (by simp [hb])) (m + x.size) e he; omega
theorem end_in_flat (b : Br) : ∀ up deep next stop n e, e ∈ Br.flat up deep next stop n b → e.pos + e.b.size ≤ n + b.size := by
  induction b using Br.ind with
  | hP h ks ih =>
    intro up deep next stop n e he
    simp only [Br.flat] at he
    rcases List.mem_cons.1 he with rfl | he
    · exact Nat.le_refl _
    · have := end_in_flats_of ih _ _ _ _ e he
      simp only [Br.size]; omega
theorem end_in {b : Br} {i : Nat} {e : Ent} (h : b.all[i]? = some e) {k : Nat} {e' : Ent} (hk : b.all[k]? = some e') (h1 : i ≤ k) (h2 : k < i + e.b.size) : k + e'.b.size ≤ i + e.b.size := by
  have hh := here_at h
  unfold Ent.Here at hh
  rw [pos_of_all h] at hh
  have h3 := hh (k - i) (by rw [flat_length]; omega)
  rw [show i + (k - i) = k by omega, hk] at h3
  have := end_in_flat _ _ _ _ _ _ e' (List.mem_of_getElem? h3.symm)
  rw [pos_of_all hk] at this
  exact this
/-- Next ones, and where a row of kids ends. -/
theorem next_flats_of {ks : List Br} (ih : ∀ b ∈ ks, ∀ up deep next stop n, (next = -1 ∧ stop = n + b.size ∨ next = ((n + b.size : Nat) : Int) ∧ n + b.size < stop) → ∀ e ∈ Br.flat up deep next stop n b, (e.next = -1 ∧ e.stop = e.pos + e.b.size ∨ e.next = ((e.pos + e.b.size : Nat) : Int) ∧ e.pos + e.b.size < e.stop)) (up : Nat) (deep : Int) (m : Nat) :
    ∀ e ∈ flats up deep (m + sizes ks) m ks, (e.next = -1 ∧ e.stop = e.pos + e.b.size ∨ e.next = ((e.pos + e.b.size : Nat) : Int) ∧ e.pos + e.b.size < e.stop) := by
  induction ks generalizing m with
  | nil => intro e he; simp [flats] at he
  | cons x r ih' =>
    intro e he
    simp only [flats, sizes] at he
    rcases List.mem_append.1 he with he | he
    · refine ih x (by simp) _ _ _ _ _ ?_ e he
      cases r with
      | nil => exact .inl ⟨rfl, by simp [sizes]⟩
      | cons y r => exact .inr ⟨rfl, by have := y.size_pos; simp only [sizes]; omega⟩
    · have := ih' (fun b hb => ih b (by simp [hb])) (m + x.size) e
      rw [Nat.add_assoc] at this
      exact this he
theorem next_flat (b : Br) : ∀ up deep next stop n, (next = -1 ∧ stop = n + b.size ∨ next = ((n + b.size : Nat) : Int) ∧ n + b.size < stop) → ∀ e ∈ Br.flat up deep next stop n b, (e.next = -1 ∧ e.stop = e.pos + e.b.size ∨ e.next = ((e.pos + e.b.size : Nat) : Int) ∧ e.pos + e.b.size < e.stop) := by
  induction b using Br.ind with
  | hP h ks ih =>
    intro up deep next stop n h0 e he
    simp only [Br.flat] at he
    rcases List.mem_cons.1 he with rfl | he
    · exact h0
    · have := next_flats_of ih n (deep + 1) (n + 1) e
      rw [show n + 1 + sizes ks = n + (sizes ks + 1) by omega] at this
      exact this he
theorem next_of {b : Br} {i : Nat} {e : Ent} (h : b.all[i]? = some e) : (e.next = -1 ∧ e.stop = i + e.b.size ∨ e.next = ((i + e.b.size : Nat) : Int) ∧ i + e.b.size < e.stop) := by
  have := next_flat b (-1) 1 (-1) b.size 0 (.inl ⟨rfl, by omega⟩) e (List.mem_of_getElem? h)
  rw [pos_of_all h] at this
  exact this

/-- The walk's list is right. -/
def Cov (b : Br) (n : Nat) : List Nat → Nat → Nat → Prop
  | [], m, E => m = E
  | x :: r, m, E => x = m ∧ n ≤ x ∧ ∃ e, b.all[x]? = some e ∧ (bif x == n then n + e.b.size else e.stop) > m ∧ Cov b n r (bif x == n then n + e.b.size else e.stop) E
theorem cov_len (b : Br) (n : Nat) : ∀ S m E, Cov b n S m E → m + S.length ≤ E := by
  intro S
  induction S with
  | nil => intro m E h; simp only [Cov] at h; simp; omega
  | cons x r ih =>
    intro m E h
    obtain ⟨rfl, _, e, _, h1, h2⟩ := h
    have := ih _ _ h2
    simp; omega

theorem firstOf_eq (b : Br) (n : Nat) : (b.ks = [] ∧ firstOf b n = -1) ∨ (b.ks ≠ [] ∧ firstOf b n = ((n + 1 : Nat) : Int)) := by
  unfold firstOf
  cases h : b.ks with
  | nil => exact .inl ⟨rfl, rfl⟩
  | cons x r => exact .inr ⟨by simp, rfl⟩
/-- The first kid of a part. -/
theorem first_kid {b : Br} {i : Nat} {e : Ent} (h : b.all[i]? = some e) (hne : e.b.ks ≠ []) : ∃ e', b.all[i + 1]? = some e' ∧ e'.stop = i + e.b.size ∧ i + 1 < i + e.b.size := by
  obtain ⟨x, r, hx⟩ := List.exists_cons_of_ne_nil hne
  obtain ⟨e', he, _, _, h5, _, h7⟩ := kid_of h (i + 1) (by rw [hx]; simp [offs])
  have := e'.b.size_pos
  exact ⟨e', he, h5, by omega⟩
/-- The next part. -/
theorem nx_flats_of {l : List Ent} {ks : List Br} (ih : ∀ b ∈ ks, ∀ up deep next stop n, Sits l n (Br.flat up deep next stop n b) → (n + b.size < stop → ∃ e', l[n + b.size]? = some e' ∧ e'.stop = stop) → ∀ e ∈ Br.flat up deep next stop n b, e.pos + e.b.size < e.stop → ∃ e', l[e.pos + e.b.size]? = some e' ∧ e'.stop = e.stop) (up : Nat) (deep : Int) (m : Nat) (hs : Sits l m (flats up deep (m + sizes ks) m ks)) :
    ∀ e ∈ flats up deep (m + sizes ks) m ks, e.pos + e.b.size < e.stop → ∃ e', l[e.pos + e.b.size]? = some e' ∧ e'.stop = e.stop := by
  induction ks generalizing m with
  | nil => intro e he; simp [flats] at he
  | cons x r ih' =>
    intro e he
    simp only [flats, sizes] at he hs
    have hr := hs.right
    rw [flat_length] at hr
    rcases List.mem_append.1 he with he | he
    · refine ih x (by simp) _ _ _ _ _ hs.left ?_ e he
      intro hlt
      cases r with
      | nil => simp [sizes] at hlt
      | cons y r =>
        simp only [flats] at hr
        have h1 := hr.left
        rw [flat_eq] at h1
        exact ⟨_, h1.head, rfl⟩
    · have := ih' (fun b hb => ih b (by simp [hb])) (m + x.size)
      rw [Nat.add_assoc] at this
      exact this hr e he
theorem nx_flat {l : List Ent} (b : Br) : ∀ up deep next stop n, Sits l n (Br.flat up deep next stop n b) → (n + b.size < stop → ∃ e', l[n + b.size]? = some e' ∧ e'.stop = stop) → ∀ e ∈ Br.flat up deep next stop n b, e.pos + e.b.size < e.stop → ∃ e', l[e.pos + e.b.size]? = some e' ∧ e'.stop = e.stop := by
  induction b using Br.ind with
  | hP h ks ih =>
    intro up deep next stop n hs h0 e he
    have hs' := hs
    simp only [Br.flat] at he hs'
    rcases List.mem_cons.1 he with rfl | he
    · exact h0
    · have := nx_flats_of ih n (deep + 1) (n + 1)
      rw [show n + 1 + sizes ks = n + (sizes ks + 1) by omega] at this
      exact this hs'.tail e he
theorem next_in {b : Br} {i : Nat} {e : Ent} (h : b.all[i]? = some e) (hn : i + e.b.size < e.stop) : ∃ e', b.all[i + e.b.size]? = some e' ∧ e'.stop = e.stop := by
  have := nx_flat (l := b.all) b (-1) 1 (-1) b.size 0 (fun j hj => by rw [Nat.zero_add]; rfl) (fun h => by omega) e (List.mem_of_getElem? h)
  rw [pos_of_all h] at this
  exact this hn

theorem walks_of {b : Br} {n : Nat} {e : Ent} (h : b.all[n]? = some e) (hs : b.size ≤ 1000) : Walks b.knots n (n + e.b.size) (fun S m => Cov b n S m (n + e.b.size)) := by
  have hend := end_le h
  have hp := e.b.size_pos
  refine ⟨⟨rfl, Nat.le_refl _, e, h, by simp; exact hp, by simp [Cov]⟩, fun m hm => hm, fun S m hc => by have := cov_len b n S m _ hc; omega, fun x r m hc => ?_⟩
  have hl := cov_len b n _ _ _ hc
  obtain ⟨rfl, hnx, ex, hex, h1, h2⟩ := hc
  have hl2 := cov_len b n _ _ _ h2
  simp only [List.length_cons] at hl
  have hex1 := end_le hex
  have hkx : x < b.knots.length := by rw [knots_length]; have := ex.b.size_pos; omega
  have hxp := ex.b.size_pos
  refine ⟨rfl, by omega, hkx, ?_⟩
  rw [knots_at, hex]
  simp only [Option.map_some, Ent.kn, pos_of_all hex]
  have hfk : ∃ a, firstOf ex.b x = encO a ∧ (a = none ∧ ex.b.size = 1 ∨ a = some (x + 1) ∧ ∃ e', b.all[x + 1]? = some e' ∧ e'.stop = x + ex.b.size ∧ x + 1 < x + ex.b.size) := by
    rcases firstOf_eq ex.b x with ⟨h3, h4⟩ | ⟨h3, h4⟩
    · exact ⟨none, h4, .inl ⟨rfl, by rw [Br.size_eq, h3]; rfl⟩⟩
    · exact ⟨some (x + 1), h4, .inr ⟨rfl, first_kid hex h3⟩⟩
  have hnk : ∃ c, ex.next = encO c ∧ (c = none ∧ ex.stop = x + ex.b.size ∨ c = some (x + ex.b.size) ∧ x + ex.b.size < ex.stop ∧ ∃ e', b.all[x + ex.b.size]? = some e' ∧ e'.stop = ex.stop) := by
    rcases next_of hex with ⟨h3, h4⟩ | ⟨h3, h4⟩
    · exact ⟨none, h3, .inl ⟨rfl, h4⟩⟩
    · exact ⟨some (x + ex.b.size), h3, .inr ⟨rfl, h4, next_in hex h4⟩⟩
  obtain ⟨a, ha, hac⟩ := hfk
  obtain ⟨c, hc, hcc⟩ := hnk
  refine ⟨a, c, by rw [ha, hc], ?_⟩
  -- what stands behind x's own parts
  have hrest : Cov b n ((bif x == n then [] else c.toList) ++ r) (x + ex.b.size) (n + e.b.size) := by
    cases hxn : (x == n)
    · rw [hxn, cond_false] at h1 h2
      rw [cond_false]
      rcases hcc with ⟨rfl, h3⟩ | ⟨rfl, h3, e', h4, h5⟩
      · rw [h3] at h2
        exact h2
      · have hne : ((x + ex.b.size) == n) = false := by simp; simp at hxn; omega
        refine ⟨rfl, by omega, e', h4, ?_, ?_⟩
        · rw [hne, cond_false, h5]; exact h3
        · rw [hne, cond_false, h5]; exact h2
    · rw [hxn, cond_true] at h1 h2
      rw [cond_true]
      have : x = n := by simpa using hxn
      subst this
      rw [h] at hex
      obtain rfl := Option.some.inj hex
      exact h2
  rcases hac with ⟨rfl, h3⟩ | ⟨rfl, e', h4, h5, h6⟩
  · rw [h3] at hrest
    exact hrest
  · have hne : ((x + 1) == n) = false := by simp; omega
    simp only [Option.toList, List.cons_append, List.nil_append]
    refine ⟨rfl, by omega, e', h4, ?_, ?_⟩
    · rw [hne, cond_false, h5]; exact h6
    · rw [hne, cond_false, h5]; exact hrest

/-- Which entries from m on have the parent n. -/
def upsAt (l : List Ent) (m : Nat) (n : Int) : List Nat :=
  match l with
  | [] => []
  | e :: r => (bif e.up == n then [m] else []) ++ upsAt r (m + 1) n
theorem upsAt_append (a b : List Ent) (m : Nat) (n : Int) : upsAt (a ++ b) m n = upsAt a m n ++ upsAt b (m + a.length) n := by
  induction a generalizing m with
  | nil => simp [upsAt]
  | cons x r ih =>
    simp only [List.cons_append, upsAt, ih, List.append_assoc, List.length_cons]
    rw [show m + 1 + r.length = m + (r.length + 1) by omega]
theorem upsAt_none (l : List Ent) (m : Nat) (n : Int) (h : ∀ e ∈ l, e.up ≠ n) : upsAt l m n = [] := by
  induction l generalizing m with
  | nil => rfl
  | cons x r ih =>
    have : (x.up == n) = false := by rw [beq_eq_false_iff_ne]; exact h x (by simp)
    simp only [upsAt, this, cond_false, List.nil_append]
    exact ih _ (fun e he => h e (by simp [he]))
theorem upsAt_kids (ks : List Br) (up : Nat) (deep : Int) (stop m : Nat) (hm : up < m) : upsAt (flats up deep stop m ks) m (up : Int) = offs m ks := by
  induction ks generalizing m with
  | nil => rfl
  | cons x r ih =>
    have hp := x.size_pos
    simp only [flats, upsAt_append, flat_length, offs]
    rw [ih (m + x.size) (by omega), flat_eq]
    simp only [upsAt, beq_self_eq_true, cond_true]
    rw [upsAt_none, List.append_nil]
    · rfl
    · intro e he
      obtain ⟨u, h1, h2, _⟩ := up_flats_of (ks := x.ks) (fun b _ => up_flat b) m _ _ (m + 1) (by omega) e he
      rw [h1]
      omega
theorem upsAt_flats_of {ks : List Br} (ih : ∀ b ∈ ks, ∀ up deep next stop n i e, (Br.flat up deep next stop n b)[i]? = some e → up ≠ ((n + i : Nat) : Int) → upsAt (Br.flat up deep next stop n b) n ((n + i : Nat) : Int) = offs (n + i + 1) e.b.ks) (up : Nat) (deep : Int) (stop m i : Nat) (hm : up < m) (e : Ent) (h : (flats up deep stop m ks)[i]? = some e) :
    upsAt (flats up deep stop m ks) m ((m + i : Nat) : Int) = offs (m + i + 1) e.b.ks := by
  induction ks generalizing m i with
  | nil => simp [flats] at h
  | cons x r ih' =>
    have hp := x.size_pos
    simp only [flats] at h ⊢
    rw [upsAt_append, flat_length]
    rw [List.getElem?_append, flat_length] at h
    split at h
    · rename_i hlt
      rw [ih x (by simp) _ _ _ _ _ _ _ h (by omega), upsAt_none, List.append_nil]
      intro e' he'
      obtain ⟨u, h1, h2, _⟩ := up_flats_of (ks := r) (fun b _ => up_flat b) up _ _ (m + x.size) (by omega) e' he'
      rw [h1]
      omega
    · rename_i hge
      have := ih' (fun b hb => ih b (by simp [hb])) (m + x.size) (i - x.size) (by omega) h
      rw [show m + x.size + (i - x.size) = m + i by omega] at this
      rw [this, upsAt_none, List.nil_append]
      intro e' he'
      rcases up_flat x _ _ _ _ _ e' he' with ⟨_, h2⟩ | ⟨u, h1, h2, h3, h4⟩
      · rw [h2]
        omega
      · rw [h1]
        omega
theorem upsAt_flat (b : Br) : ∀ up deep next stop n i e, (Br.flat up deep next stop n b)[i]? = some e → up ≠ ((n + i : Nat) : Int) → upsAt (Br.flat up deep next stop n b) n ((n + i : Nat) : Int) = offs (n + i + 1) e.b.ks := by
  induction b using Br.ind with
  | hP h ks ih =>
    intro up deep next stop n i e he hne
    simp only [Br.flat] at he ⊢
    simp only [upsAt]
    have h0 : (up == ((n + i : Nat) : Int)) = false := by rw [beq_eq_false_iff_ne]; exact hne
    rw [h0, cond_false, List.nil_append]
    cases i with
    | zero =>
      simp at he
      rw [← he]
      exact upsAt_kids ks n _ _ (n + 1) (by omega)
    | succ i =>
      rw [List.getElem?_cons_succ] at he
      have := upsAt_flats_of ih n (deep + 1) _ (n + 1) i (by omega) e he
      rw [show n + 1 + i = n + (i + 1) by omega] at this
      exact this
theorem upsAt_all {b : Br} {i : Nat} {e : Ent} (h : b.all[i]? = some e) : upsAt b.all 0 (i : Int) = offs (i + 1) e.b.ks := by
  have := upsAt_flat b (-1) 1 (-1) b.size 0 i e h (by omega)
  rw [Nat.zero_add] at this
  exact this
end Go.Proofs.Ytcijjeflojaocaa
