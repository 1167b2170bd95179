/-
  TreeWithin: the program's answer is the document's; the walk.
-/
import Derived.Test.YtcijjeflojaocaaRefWithin
import Derived.Test.YtcijjeflojaocaaAlive
import Derived.Test.YtcijjeflojaocaaTill
namespace Go.Proofs.Ytcijjeflojaocaa
open Go.RowKit
set_option linter.unusedVariables false
set_option linter.unusedSimpArgs false

theorem choose_le {α : Type} [Inhabited α] {n : Nat} {p : Nat → α → Prop} (h : ∀ i, i < n → ∃ x, p i x) : ∃ f : Nat → α, ∀ i, i < n → p i (f i) := by
  induction n with
  | zero => exact ⟨fun _ => default, fun i hi => by omega⟩
  | succ n ih =>
    obtain ⟨f, hf⟩ := ih (fun i hi => h i (by omega))
    obtain ⟨x, hx⟩ := h n (by omega)
    refine ⟨fun i => bif i == n then x else f i, fun i hi => ?_⟩
    cases hin : (i == n)
    · simp only [hin, cond_false]
      exact hf i (by simp at hin; omega)
    · have : i = n := by simpa using hin
      subst this
      simp only [hin, cond_true]
      exact hx
theorem mem_upsAt (l : List Ent) (m : Nat) (n : Int) (k : Nat) : k ∈ upsAt l m n ↔ ∃ j e, l[j]? = some e ∧ e.up = n ∧ k = m + j := by
  induction l generalizing m with
  | nil => simp [upsAt]
  | cons x r ih =>
    simp only [upsAt, List.mem_append, ih]
    constructor
    · rintro (h | ⟨j, e, h1, h2, h3⟩)
      · cases hx : (x.up == n)
        · rw [hx] at h; simp at h
        · rw [hx] at h
          simp at h
          exact ⟨0, x, rfl, by simpa using hx, by omega⟩
      · exact ⟨j + 1, e, by simpa using h1, h2, by omega⟩
    · rintro ⟨j, e, h1, h2, h3⟩
      cases j with
      | zero =>
        simp at h1
        subst h1
        have : (x.up == n) = true := by simpa using h2
        rw [this]
        exact .inl (by simp; omega)
      | succ j => exact .inr ⟨j, e, by simpa using h1, h2, by omega⟩
theorem kid_iff {b : Br} {u : Nat} {eu : Ent} (hu : b.all[u]? = some eu) (i : Nat) : i ∈ kidsOf b u ↔ ∃ e, b.all[i]? = some e ∧ e.up = (u : Int) := by
  rw [kidsOf_at hu, ← upsAt_all hu, mem_upsAt]
  constructor
  · rintro ⟨j, e, h1, h2, h3⟩
    obtain rfl : i = j := by omega
    exact ⟨e, h1, h2⟩
  · rintro ⟨e, h1, h2⟩
    exact ⟨i, e, h1, h2, by omega⟩
theorem fewB {b : Br} (h : few b = true) : b.size ≤ 150 ∧ b.names ≤ 500 := by simpa [few] using h
theorem fitsAll_of {ks : List Br} (ih : ∀ b ∈ ks, b.names ≤ 500 → b.Fits) (h : namesAll ks ≤ 500) : FitsAll ks := by
  induction ks with
  | nil => trivial
  | cons x r ih' =>
    simp only [namesAll] at h
    exact ⟨ih x (by simp) (by omega), ih' (fun b hb => ih b (by simp [hb])) (by omega)⟩
theorem fits_of (b : Br) : b.names ≤ 500 → b.Fits := by
  induction b using Br.ind with
  | hP h ks ih =>
    intro hn
    simp only [Br.names] at hn
    exact ⟨by omega, fitsAll_of ih (by omega)⟩

section
variable {b : Br} {tok : Int} {paths : Nat → List Nat} (hpath : ∀ i, i < b.all.length → Climb (fun i => b.all[i]?.map Ent.up) (i : Int) (paths i))
include hpath
theorem ok_rec {i : Nat} {e : Ent} (he : b.all[i]? = some e) : (i = 0 ∧ (paths i).all (seesL b.all tok) = seesOf b tok 0) ∨ ∃ u : Nat, e.up = (u : Int) ∧ u < i ∧ (paths i).all (seesL b.all tok) = (seesOf b tok i && (paths u).all (seesL b.all tok)) := by
  have hi : i < b.all.length := (List.getElem?_eq_some_iff.1 he).1
  have hc := hpath i hi
  rcases up_of he with ⟨rfl, h1⟩ | ⟨u, h1, h2⟩
  · refine .inl ⟨rfl, ?_⟩
    have : paths 0 = [0] := climb_det hc ⟨rfl, -1, by simp [he, h1], by show (-1 : Int) < 0; omega⟩
    rw [this]
    simp [seesL, seesOf, he]
  · refine .inr ⟨u, h1, h2, ?_⟩
    have : paths i = i :: paths u := climb_det hc ⟨rfl, u, by simp [he, h1], hpath u (by omega)⟩
    rw [this, List.all_cons]
    rfl
theorem ok_level (h0 : seesOf b tok 0 = true) : ∀ i, i < b.all.length → ((paths i).all (seesL b.all tok) = true ↔ ∃ d, i ∈ levels (kidsOf b) (seesOf b tok) d) := by
  intro i
  induction i using Nat.strongRecOn with
  | _ i ih =>
    intro hi
    obtain ⟨e, he⟩ : ∃ e, b.all[i]? = some e := ⟨_, List.getElem?_eq_getElem hi⟩
    rcases ok_rec hpath (tok := tok) he with ⟨rfl, h1⟩ | ⟨u, h1, h2, h3⟩
    · rw [h1, h0]
      exact ⟨fun _ => ⟨0, by simp [levels]⟩, fun _ => rfl⟩
    · rw [h3]
      obtain ⟨eu, heu⟩ : ∃ e, b.all[u]? = some e := ⟨_, List.getElem?_eq_getElem (by omega)⟩
      constructor
      · intro h
        simp only [Bool.and_eq_true] at h
        obtain ⟨d, hd⟩ := (ih u h2 (by omega)).1 h.2
        exact ⟨d + 1, mem_level_succ.2 ⟨u, hd, (kid_iff heu i).2 ⟨e, he, h1⟩, h.1⟩⟩
      · rintro ⟨d, hd⟩
        cases d with
        | zero => simp only [levels, List.mem_singleton] at hd; omega
        | succ d =>
          obtain ⟨n, hn, hkn, hs⟩ := mem_level_succ.1 hd
          obtain ⟨_, en, hen, _⟩ := level_in d n hn
          obtain ⟨e', he', hup⟩ := (kid_iff hen i).1 hkn
          rw [he] at he'
          obtain rfl := Option.some.inj he'
          have : n = u := by omega
          subst this
          rw [hs, Bool.true_and]
          exact (ih n h2 (by omega)).2 ⟨d, hn⟩
theorem ok_none (h0 : seesOf b tok 0 = false) : ∀ i, i < b.all.length → (paths i).all (seesL b.all tok) = false := by
  intro i
  induction i using Nat.strongRecOn with
  | _ i ih =>
    intro hi
    obtain ⟨e, he⟩ : ∃ e, b.all[i]? = some e := ⟨_, List.getElem?_eq_getElem hi⟩
    rcases ok_rec hpath (tok := tok) he with ⟨rfl, h1⟩ | ⟨u, h1, h2, h3⟩
    · rw [h1, h0]
    · rw [h3, ih u h2 (by omega), Bool.and_false]
theorem best_of (D : Nat) (h0 : seesOf b tok 0 = true) (hnil : levels (kidsOf b) (seesOf b tok) (D + 1) = []) (hne : levels (kidsOf b) (seesOf b tok) D ≠ []) :
    Best (deepL b.all) (fun i => (paths i).all (seesL b.all tok)) b.all.length ((levels (kidsOf b) (seesOf b tok) D).getLast hne : Int) := by
  have hmem := List.getLast_mem hne
  obtain ⟨_, e, he, hde⟩ := level_in D _ hmem
  have hk : (levels (kidsOf b) (seesOf b tok) D).getLast hne < b.all.length := (List.getElem?_eq_some_iff.1 he).1
  refine .inr ⟨_, hk, rfl, (ok_level hpath h0 _ hk).2 ⟨D, hmem⟩, fun i hi ho => ?_⟩
  obtain ⟨d, hd⟩ := (ok_level hpath h0 i hi).1 ho
  obtain ⟨_, ei, hei, hdi⟩ := level_in d i hd
  have hle : d ≤ D := by
    rcases Nat.lt_or_ge D d with h | h
    · obtain ⟨k, rfl⟩ := Nat.exists_eq_add_of_lt h
      rw [show D + k + 1 = D + 1 + k by omega, level_nil _ _ _ hnil k] at hd
      cases hd
    · exact h
  have e1 : deepL b.all i = ((d + 1 : Nat) : Int) := by simp only [deepL, hei]; exact hdi
  have e2 : deepL b.all ((levels (kidsOf b) (seesOf b tok) D).getLast hne) = ((D + 1 : Nat) : Int) := by simp only [deepL, he]; exact hde
  rw [e1, e2]
  refine ⟨by omega, fun h => ?_⟩
  have : d = D := by omega
  subst this
  have hs := level_sorted b tok d
  rw [List.getLast_eq_getElem]
  obtain ⟨j, hj, rfl⟩ := List.getElem_of_mem hd
  rcases Nat.lt_or_ge j ((levels (kidsOf b) (seesOf b tok) d).length - 1) with h | h
  · exact Nat.le_of_lt (List.pairwise_iff_getElem.1 hs j _ hj (by omega) h)
  · have : j = (levels (kidsOf b) (seesOf b tok) d).length - 1 := by omega
    subst this
    exact Nat.le_refl _
end

/-- Both answers, as one. -/
theorem within_both (b : Br) (tok : Int) (hs : b.size ≤ 1000) : ∃ V : Int,
    (∀ (W : World) (T g c : Nat), Arena W T g c b.knots → Calls Try.prog 24 #[.pointer (some ⟨T, 0, none⟩), .int .i64 tok] W fun e w' => e = .returned (.int .i64 V) ∧ Below W.heap.size W w') ∧
    (∀ (W : World) (base : Nat) (v : Value), W.ownsRow base 43 8 v b.size (cellsR b.all) → Calls Try.prog 25 #[v, .int .i64 tok] W fun e w' => e = .returned (.int .i64 V) ∧ Below W.heap.size W w') := by
  have hinh : Inhabited (List Nat) := ⟨[]⟩
  have hal := all_length b
  obtain ⟨paths, hp⟩ := choose_le (n := b.size) (fun i hi => climb_of b i hi)
  have hpath : ∀ i, i < b.all.length → Climb (fun i => b.all[i]?.map Ent.up) (i : Int) (paths i) := fun i hi => (hp i (by omega)).1
  have hdet : ∃ V, ∀ v, Best (deepL b.all) (fun i => (paths i).all (seesL b.all tok)) b.all.length v → v = V := by
    by_cases h : ∃ v, Best (deepL b.all) (fun i => (paths i).all (seesL b.all tok)) b.all.length v
    · obtain ⟨V, hV⟩ := h
      exact ⟨V, fun v hv => best_det hv hV⟩
    · exact ⟨0, fun v hv => absurd ⟨v, hv⟩ h⟩
  obtain ⟨V, hV⟩ := hdet
  refine ⟨V, fun W T g c ha => ?_, fun W base v ho => ?_⟩
  · refine (within_yes tok W ha _ _ (levels_of b tok hs)).mono ?_
    rintro e w' ⟨hb, ⟨h0, rfl⟩ | ⟨h0, D, hnil, hne, rfl⟩⟩
    · refine ⟨?_, hb⟩
      rw [hV (-1) (.inl ⟨rfl, ok_none hpath h0⟩)]
    · exact ⟨by rw [hV _ (best_of hpath D h0 hnil hne)], hb⟩
  · obtain ⟨g, c, rfl, hc, hg, hrows⟩ := rowsAt_of (l := b.all) (by rw [hal]; exact ho) (by rw [hal]; exact b.size_pos)
    refine (refWithin_any b.all tok g c W hrows hg hc (by omega) paths hpath).mono ?_
    rintro e w' ⟨v, rfl, hbest, hb⟩
    exact ⟨by rw [hV v hbest], hb⟩

set_option maxHeartbeats 8000000 in
theorem treeWithin_any (b : Br) (tok : Int) (w : World) (hl : b.Lies w) : Calls Try.prog 4 #[b.h.val, .int .i64 tok] w fun e w' => e = .returned (.bool true) ∧ Below w.heap.size w w' := by
  obtain ⟨w0, e0, c0, l0, b0, s0⟩ := boxed w b hl
  have HF := Lib.hid (fun W hW => few_any b W hW)
  have HQ : Hid (∀ w1 w2 : World, Below w1.heap.size w1 w2 → b.Lies w1 → b.Lies w2) := Lib.hid fun w1 w2 h h' => h'.step _ h
  have HBX : Hid (∀ w1, Below w0.heap.size w0 w1 → (w1.cell? ⟨w.heap.size, 0, none⟩ = some (.int .i64 b.h.k) ∧ w1.cell? ⟨w.heap.size, 1, none⟩ = some (.int .i64 b.h.m) ∧ w1.cell? ⟨w.heap.size, 2, none⟩ = some (.int .i64 b.h.f) ∧ w1.cell? ⟨w.heap.size, 3, none⟩ = some (.int .i64 b.h.t) ∧ w1.cell? ⟨w.heap.size, 4, none⟩ = some (.slice b.h.np b.h.nn b.h.nc) ∧ w1.cell? ⟨w.heap.size, 5, none⟩ = some (.slice b.h.kp b.h.kn b.h.kc))) := Lib.hid fun w1 hb => (c0.step (by omega) hb).box
  have L0 := Lib.hid l0
  have B0 := Lib.hid b0
  have S0 := Lib.hid s0
  have HAL : Hid (∀ W, Calls Try.prog 9 #[] W fun e w' => e = .returned (.bool true) ∧ Below W.heap.size W w') := Lib.hid fun W => alive_any W
  clear c0 l0 b0 s0 hl
  cases hfew : few b
  · rw [hfew] at HF
    generalize b.h = h at *
    go_enter Try.func4, Try.ntmps4
    go_wp2_with fail
    rw [← e0]
    clear e0
    have HLC : Hid (b.Lies w0.drew) := Lib.hid (HQ.out _ _ (Below.refl _ _).drew L0.out)
    have q := HBX.out w0 (Below.refl _ _)
    refine wp_region_till (fun w' => w'.cell? ⟨w.heap.size, 0, none⟩ = some (.int .i64 h.k) ∧ w'.cell? ⟨w.heap.size, 1, none⟩ = some (.int .i64 h.m) ∧ w'.cell? ⟨w.heap.size, 2, none⟩ = some (.int .i64 h.f) ∧ w'.cell? ⟨w.heap.size, 3, none⟩ = some (.int .i64 h.t) ∧ w'.cell? ⟨w.heap.size, 4, none⟩ = some (.slice h.np h.nn h.nc) ∧ w'.cell? ⟨w.heap.size, 5, none⟩ = some (.slice h.kp h.kn h.kc)) 17 (by kernel_rfl) ?_
    have hHeld : (fun w' => w'.cell? ⟨w.heap.size, 0, none⟩ = some (.int .i64 h.k) ∧ w'.cell? ⟨w.heap.size, 1, none⟩ = some (.int .i64 h.m) ∧ w'.cell? ⟨w.heap.size, 2, none⟩ = some (.int .i64 h.f) ∧ w'.cell? ⟨w.heap.size, 3, none⟩ = some (.int .i64 h.t) ∧ w'.cell? ⟨w.heap.size, 4, none⟩ = some (.slice h.np h.nn h.nc) ∧ w'.cell? ⟨w.heap.size, 5, none⟩ = some (.slice h.kp h.kn h.kc)) w0.drew := q
    have HC : Hid (Below w0.heap.size w0 w0.drew) := Lib.hid (Below.refl _ _).drew
    refine wpTill_take 0 [17] (oi := { dst := some 5, op := Op.load 25 (Operand.tmp 2), type := 25, pos := "law.go:73", after := #[], guard := none }) (v := ?v0) rfl (by kernel_rfl) (by kernel_rfl) (by kernel_rfl) (by kernel_rfl) (fun _ _ _ h => h) (Or.inl ⟨by rfl, ?hy0⟩) (by assumption) ?rest0
    case hy0 => (intro w' hSw; (try dsimp only at hSw); go_simp; try with_reducible rfl)
    case' rest0 => (try simp only [Act.put, List.setIfInBounds_toArray, List.set_cons_zero, List.set_cons_succ])
    refine wpTill_one 1 (o := { dst := some 6, op := Op.call { callee := Callee.value (Operand.func 8), args := #[Operand.tmp 5], argTypes := #[25] }, type := 4, pos := "law.go:73", after := #[{ on := 0, ground := Ground.data }], guard := none }) (by kernel_rfl) rfl ?_
    intro K' hK
    go_simp
    go_at_call 8
    refine (HF.out _ HLC.out).mono ?_
    rintro e wz ⟨rfl, hbz⟩
    have HC := Lib.hid (HC.out.trans (hbz.mono HC.out.size))
    have qz := HBX.out _ HC.out
    clear hbz
    have hHeld2 : (fun w' : World => w'.cell? ⟨w.heap.size, 0, none⟩ = some (.int .i64 h.k) ∧ w'.cell? ⟨w.heap.size, 1, none⟩ = some (.int .i64 h.m) ∧ w'.cell? ⟨w.heap.size, 2, none⟩ = some (.int .i64 h.f) ∧ w'.cell? ⟨w.heap.size, 3, none⟩ = some (.int .i64 h.t) ∧ w'.cell? ⟨w.heap.size, 4, none⟩ = some (.slice h.np h.nn h.nc) ∧ w'.cell? ⟨w.heap.size, 5, none⟩ = some (.slice h.kp h.kn h.kc)) wz := qz
    refine hK.out _ _ (fun _ => hHeld2) ?_
    clear hK K' hHeld
    have hHeld := hHeld2
    clear hHeld2
    try simp only [Act.put, List.setIfInBounds_toArray, List.set_cons_zero, List.set_cons_succ]
    refine wpTill_take 2 [17] (oi := { dst := some 7, op := Op.unOp UnOp.not 4 (Operand.tmp 6), type := 4, pos := "law.go:73", after := #[{ on := 1, ground := Ground.data }], guard := none }) (v := ?v2) rfl (by kernel_rfl) (by kernel_rfl) (by kernel_rfl) (by kernel_rfl) (fun _ _ _ h => h) (Or.inl ⟨by rfl, ?hy2⟩) (by assumption) ?rest2
    case hy2 => (intro w' hSw; (try dsimp only at hSw); go_simp; try with_reducible rfl)
    case' rest2 => (try simp only [Act.put, List.setIfInBounds_toArray, List.set_cons_zero, List.set_cons_succ])
    refine wpTill_take 3 [17] (oi := { dst := some 8, op := Op.move (Operand.tmp 7), type := 4, pos := "law.go:73", after := #[{ on := 2, ground := Ground.data }, { on := 1, ground := Ground.chain }], guard := none }) (v := ?v3) rfl (by kernel_rfl) (by kernel_rfl) (by kernel_rfl) (by kernel_rfl) (fun _ _ _ h => h) (Or.inl ⟨by rfl, ?hy3⟩) (by assumption) ?rest3
    case hy3 => (intro w' hSw; (try dsimp only at hSw); go_simp; try with_reducible rfl)
    case' rest3 => (try simp only [Act.put, List.setIfInBounds_toArray, List.set_cons_zero, List.set_cons_succ])
    refine wpTill_take 4 [17] (oi := { dst := some 9, op := Op.load 25 (Operand.tmp 2), type := 25, pos := "law.go:73", after := #[{ on := 3, ground := Ground.guard }], guard := some (3, false) }) (v := undef) rfl (by kernel_rfl) (by kernel_rfl) (by kernel_rfl) (by kernel_rfl) (fun _ _ _ h => h) (Or.inr ⟨by rfl, rfl⟩) (by assumption) ?rest4
    case' rest4 => (try simp only [Act.put, List.setIfInBounds_toArray, List.set_cons_zero, List.set_cons_succ])
    refine wpTill_take 5 [17] (oi := { dst := some 10, op := Op.call { callee := Callee.value (Operand.func 10), args := #[Operand.tmp 9], argTypes := #[25] }, type := 28, pos := "law.go:73", after := #[{ on := 4, ground := Ground.data }, { on := 3, ground := Ground.chain }, { on := 3, ground := Ground.guard }], guard := some (3, false) }) (v := undef) rfl (by kernel_rfl) (by kernel_rfl) (by kernel_rfl) (by kernel_rfl) (fun _ _ _ h => h) (Or.inr ⟨by rfl, rfl⟩) (by assumption) ?rest5
    case' rest5 => (try simp only [Act.put, List.setIfInBounds_toArray, List.set_cons_zero, List.set_cons_succ])
    refine wpTill_take 6 [17] (oi := { dst := some 11, op := Op.move (Operand.tmp 1), type := 3, pos := "law.go:73", after := #[{ on := 3, ground := Ground.guard }], guard := some (3, false) }) (v := undef) rfl (by kernel_rfl) (by kernel_rfl) (by kernel_rfl) (by kernel_rfl) (fun _ _ _ h => h) (Or.inr ⟨by rfl, rfl⟩) (by assumption) ?rest6
    case' rest6 => (try simp only [Act.put, List.setIfInBounds_toArray, List.set_cons_zero, List.set_cons_succ])
    refine wpTill_take 7 [17] (oi := { dst := some 12, op := Op.call { callee := Callee.value (Operand.func 24), args := #[Operand.tmp 10, Operand.tmp 11], argTypes := #[28, 3] }, type := 3, pos := "law.go:73", after := #[{ on := 5, ground := Ground.data }, { on := 6, ground := Ground.data }, { on := 5, ground := Ground.chain }, { on := 3, ground := Ground.guard }], guard := some (3, false) }) (v := undef) rfl (by kernel_rfl) (by kernel_rfl) (by kernel_rfl) (by kernel_rfl) (fun _ _ _ h => h) (Or.inr ⟨by rfl, rfl⟩) (by assumption) ?rest7
    case' rest7 => (try simp only [Act.put, List.setIfInBounds_toArray, List.set_cons_zero, List.set_cons_succ])
    refine wpTill_take 8 [17] (oi := { dst := some 13, op := Op.load 25 (Operand.tmp 2), type := 25, pos := "law.go:73", after := #[{ on := 3, ground := Ground.guard }], guard := some (3, false) }) (v := undef) rfl (by kernel_rfl) (by kernel_rfl) (by kernel_rfl) (by kernel_rfl) (fun _ _ _ h => h) (Or.inr ⟨by rfl, rfl⟩) (by assumption) ?rest8
    case' rest8 => (try simp only [Act.put, List.setIfInBounds_toArray, List.set_cons_zero, List.set_cons_succ])
    refine wpTill_take 9 [17] (oi := { dst := some 14, op := Op.call { callee := Callee.value (Operand.func 11), args := #[Operand.tmp 13], argTypes := #[25] }, type := 30, pos := "law.go:73", after := #[{ on := 8, ground := Ground.data }, { on := 7, ground := Ground.chain }, { on := 3, ground := Ground.guard }], guard := some (3, false) }) (v := undef) rfl (by kernel_rfl) (by kernel_rfl) (by kernel_rfl) (by kernel_rfl) (fun _ _ _ h => h) (Or.inr ⟨by rfl, rfl⟩) (by assumption) ?rest9
    case' rest9 => (try simp only [Act.put, List.setIfInBounds_toArray, List.set_cons_zero, List.set_cons_succ])
    refine wpTill_take 10 [17] (oi := { dst := some 15, op := Op.move (Operand.tmp 1), type := 3, pos := "law.go:73", after := #[{ on := 3, ground := Ground.guard }], guard := some (3, false) }) (v := undef) rfl (by kernel_rfl) (by kernel_rfl) (by kernel_rfl) (by kernel_rfl) (fun _ _ _ h => h) (Or.inr ⟨by rfl, rfl⟩) (by assumption) ?rest10
    case' rest10 => (try simp only [Act.put, List.setIfInBounds_toArray, List.set_cons_zero, List.set_cons_succ])
    refine wpTill_take 11 [17] (oi := { dst := some 16, op := Op.call { callee := Callee.value (Operand.func 25), args := #[Operand.tmp 14, Operand.tmp 15], argTypes := #[30, 3] }, type := 3, pos := "law.go:73", after := #[{ on := 9, ground := Ground.data }, { on := 10, ground := Ground.data }, { on := 9, ground := Ground.chain }, { on := 3, ground := Ground.guard }], guard := some (3, false) }) (v := undef) rfl (by kernel_rfl) (by kernel_rfl) (by kernel_rfl) (by kernel_rfl) (fun _ _ _ h => h) (Or.inr ⟨by rfl, rfl⟩) (by assumption) ?rest11
    case' rest11 => (try simp only [Act.put, List.setIfInBounds_toArray, List.set_cons_zero, List.set_cons_succ])
    refine wpTill_take 12 [17] (oi := { dst := some 17, op := Op.binOp BinOp.eql 3 (Operand.tmp 12) (Operand.tmp 16) 3, type := 4, pos := "law.go:73", after := #[{ on := 7, ground := Ground.data }, { on := 11, ground := Ground.data }, { on := 3, ground := Ground.guard }], guard := some (3, false) }) (v := undef) rfl (by kernel_rfl) (by kernel_rfl) (by kernel_rfl) (by kernel_rfl) (fun _ _ _ h => h) (Or.inr ⟨by rfl, rfl⟩) (by assumption) ?rest12
    case' rest12 => (try simp only [Act.put, List.setIfInBounds_toArray, List.set_cons_zero, List.set_cons_succ])
    refine wpTill_take 13 [17] (oi := { dst := some 18, op := Op.pick (Operand.tmp 8) (Operand.const (Value.bool true)) (Operand.tmp 17), type := 4, pos := "law.go:73", after := #[{ on := 3, ground := Ground.data }, { on := 12, ground := Ground.data }], guard := none }) (v := ?v13) rfl (by kernel_rfl) (by kernel_rfl) (by kernel_rfl) (by kernel_rfl) (fun _ _ _ h => h) (Or.inl ⟨by rfl, ?hy13⟩) (by assumption) ?rest13
    case hy13 => (intro w' hSw; (try dsimp only at hSw); go_simp; try with_reducible rfl)
    case' rest13 => (try simp only [Act.put, List.setIfInBounds_toArray, List.set_cons_zero, List.set_cons_succ])
    refine wpTill_take 14 [17] (oi := { dst := some 19, op := Op.move (Operand.tmp 18), type := 4, pos := "law.go:73", after := #[{ on := 13, ground := Ground.data }, { on := 11, ground := Ground.chain }], guard := none }) (v := ?v14) rfl (by kernel_rfl) (by kernel_rfl) (by kernel_rfl) (by kernel_rfl) (fun _ _ _ h => h) (Or.inl ⟨by rfl, ?hy14⟩) (by assumption) ?rest14
    case hy14 => (intro w' hSw; (try dsimp only at hSw); go_simp; try with_reducible rfl)
    case' rest14 => (try simp only [Act.put, List.setIfInBounds_toArray, List.set_cons_zero, List.set_cons_succ])
    refine wpTill_one 15 (o := { dst := some 20, op := Op.call { callee := Callee.value (Operand.func 9), args := #[], argTypes := #[] }, type := 4, pos := "law.go:73", after := #[{ on := 14, ground := Ground.chain }, { on := 14, ground := Ground.guard }], guard := some (14, true) }) (by kernel_rfl) rfl ?_
    intro K' hK
    go_simp
    go_at_call 9
    refine (HAL.out _).mono ?_
    rintro e wz ⟨rfl, hbz⟩
    have HC := Lib.hid (HC.out.trans (hbz.mono HC.out.size))
    have qz := HBX.out _ HC.out
    clear hbz
    have hHeld2 : (fun w' : World => w'.cell? ⟨w.heap.size, 0, none⟩ = some (.int .i64 h.k) ∧ w'.cell? ⟨w.heap.size, 1, none⟩ = some (.int .i64 h.m) ∧ w'.cell? ⟨w.heap.size, 2, none⟩ = some (.int .i64 h.f) ∧ w'.cell? ⟨w.heap.size, 3, none⟩ = some (.int .i64 h.t) ∧ w'.cell? ⟨w.heap.size, 4, none⟩ = some (.slice h.np h.nn h.nc) ∧ w'.cell? ⟨w.heap.size, 5, none⟩ = some (.slice h.kp h.kn h.kc)) wz := qz
    refine hK.out _ _ (fun _ => hHeld2) ?_
    clear hK K' hHeld
    have hHeld := hHeld2
    clear hHeld2
    try simp only [Act.put, List.setIfInBounds_toArray, List.set_cons_zero, List.set_cons_succ]
    refine wpTill_take 16 [17] (oi := { dst := some 21, op := Op.pick (Operand.tmp 19) (Operand.tmp 20) (Operand.const (Value.bool false)), type := 4, pos := "law.go:73", after := #[{ on := 14, ground := Ground.data }, { on := 15, ground := Ground.data }], guard := none }) (v := ?v16) rfl (by kernel_rfl) (by kernel_rfl) (by kernel_rfl) (by kernel_rfl) (fun _ _ _ h => h) (Or.inl ⟨by rfl, ?hy16⟩) (by assumption) ?rest16
    case hy16 => (intro w' hSw; (try dsimp only at hSw); go_simp; try with_reducible rfl)
    case' rest16 => (try simp only [Act.put, List.setIfInBounds_toArray, List.set_cons_zero, List.set_cons_succ])
    refine wpTill_one 17 (o := { dst := some 4, op := Op.assign (Operand.tmp 21), type := 4, pos := "law.go:73", after := #[{ on := 16, ground := Ground.data }, { on := 15, ground := Ground.chain }, { on := 0, ground := Ground.phase }, { on := 1, ground := Ground.phase }, { on := 2, ground := Ground.phase }, { on := 3, ground := Ground.phase }, { on := 4, ground := Ground.phase }, { on := 5, ground := Ground.phase }, { on := 6, ground := Ground.phase }, { on := 7, ground := Ground.phase }, { on := 8, ground := Ground.phase }, { on := 9, ground := Ground.phase }, { on := 10, ground := Ground.phase }, { on := 11, ground := Ground.phase }, { on := 12, ground := Ground.phase }, { on := 13, ground := Ground.phase }, { on := 14, ground := Ground.phase }, { on := 15, ground := Ground.phase }, { on := 16, ground := Ground.phase }], guard := none }) (by kernel_rfl) rfl ?_
    intro K' hK
    go_simp
    refine hK.out _ _ (fun h => absurd (show true = false from h) (by simp)) ?_
    clear hK K' hHeld
    refine wpTill_done (by kernel_rfl) ?_ _
    have HE := Lib.hid (B0.out.trans (HC.out.mono B0.out.size))
    go_wp2_with fail
    go_ret
    exact ⟨by first | trivial | rfl, HE.out⟩
  · rw [hfew] at HF
    obtain ⟨hs1, hn1⟩ := fewB hfew
    obtain ⟨V, hV1, hV2⟩ := within_both b tok (by omega)
    have HV1 := Lib.hid hV1
    have HV2 := Lib.hid hV2
    have HMK : Hid (∀ W, b.Lies W → Calls Try.prog 10 #[b.h.val] W fun e w' => ∃ T g c, e = .returned (.pointer (some ⟨T, 0, none⟩)) ∧ Arena w' T g c b.knots ∧ Below W.heap.size W w') := Lib.hid fun W h => make_any b W h (fits_of b hn1) (by omega)
    have HRO : Hid (∀ W, b.Lies W → Calls Try.prog 11 #[b.h.val] W fun e w' => ∃ v, e = .returned v ∧ w'.ownsRow W.heap.size 43 8 v b.size (cellsR b.all) ∧ Below W.heap.size W w') := Lib.hid fun W h => refRows_any b W h (by omega)
    clear hfew hs1 hn1 hV1 hV2
    generalize b.h = h at *
    go_enter Try.func4, Try.ntmps4
    go_wp2_with fail
    rw [← e0]
    clear e0
    have HLC : Hid (b.Lies w0.drew) := Lib.hid (HQ.out _ _ (Below.refl _ _).drew L0.out)
    have HC : Hid (Below w0.heap.size w0 w0.drew) := Lib.hid (Below.refl _ _).drew
    have q := HBX.out w0 (Below.refl _ _)
    go_region_held3 (fun w' => w'.cell? ⟨w.heap.size, 0, none⟩ = some (.int .i64 h.k) ∧ w'.cell? ⟨w.heap.size, 1, none⟩ = some (.int .i64 h.m) ∧ w'.cell? ⟨w.heap.size, 2, none⟩ = some (.int .i64 h.f) ∧ w'.cell? ⟨w.heap.size, 3, none⟩ = some (.int .i64 h.t) ∧ w'.cell? ⟨w.heap.size, 4, none⟩ = some (.slice h.np h.nn h.nc) ∧ w'.cell? ⟨w.heap.size, 5, none⟩ = some (.slice h.kp h.kn h.kc)) (first | exact q | exact qz | go_keep)
      ((first
        | (go_at_call 8; refine (HF.out _ HLC.out).mono ?_; rintro e wz ⟨rfl, hbz⟩; have HC := Lib.hid (HC.out.trans (hbz.mono HC.out.size)); have HLC := Lib.hid (HQ.out _ _ hbz HLC.out); have qz := HBX.out _ HC.out)
        | (go_at_call 10; refine (HMK.out _ HLC.out).mono ?_; rintro e wz ⟨T, g, c, rfl, ham, hbz⟩; have HC := Lib.hid (HC.out.trans (hbz.mono HC.out.size)); have HLC := Lib.hid (HQ.out _ _ hbz HLC.out); have qz := HBX.out _ HC.out; (try have HOR := Lib.hid (row_step HOR.out hbz)); have HAM := Lib.hid ham)
        | (go_at_call 11; refine (HRO.out _ HLC.out).mono ?_; rintro e wz ⟨vr, rfl, hor, hbz⟩; have HC := Lib.hid (HC.out.trans (hbz.mono HC.out.size)); have HLC := Lib.hid (HQ.out _ _ hbz HLC.out); have qz := HBX.out _ HC.out; (try have HAM := Lib.hid (HAM.out.step hbz)); have HOR := Lib.hid hor)
        | (go_at_call 24; refine (HV1.out _ _ _ _ HAM.out).mono ?_; rintro e wz ⟨rfl, hbz⟩; have HC := Lib.hid (HC.out.trans (hbz.mono HC.out.size)); have HLC := Lib.hid (HQ.out _ _ hbz HLC.out); have qz := HBX.out _ HC.out; (try have HAM := Lib.hid (HAM.out.step hbz)); (try have HOR := Lib.hid (row_step HOR.out hbz)))
        | (go_at_call 25; refine (HV2.out _ _ _ HOR.out).mono ?_; rintro e wz ⟨rfl, hbz⟩; have HC := Lib.hid (HC.out.trans (hbz.mono HC.out.size)); have HLC := Lib.hid (HQ.out _ _ hbz HLC.out); have qz := HBX.out _ HC.out; (try have HAM := Lib.hid (HAM.out.step hbz)); (try have HOR := Lib.hid (row_step HOR.out hbz)))
        | (go_at_call 9; refine (HAL.out _).mono ?_; rintro e wz ⟨rfl, hbz⟩; have HC := Lib.hid (HC.out.trans (hbz.mono HC.out.size)); have HLC := Lib.hid (HQ.out _ _ hbz HLC.out); have qz := HBX.out _ HC.out)))
    all_goals
      have HE := Lib.hid (B0.out.trans (HC.out.mono B0.out.size))
      go_wp2_with fail
      go_ret
      exact ⟨by first | trivial | rfl, HE.out⟩
end Go.Proofs.Ytcijjeflojaocaa
