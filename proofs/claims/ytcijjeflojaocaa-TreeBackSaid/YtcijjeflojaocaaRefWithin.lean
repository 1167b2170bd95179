/-
  The document's Within over the rows.
-/
import Derived.Test.YtcijjeflojaocaaLevel
import Derived.Deep.LoopGhost
namespace Go.Proofs.Ytcijjeflojaocaa
open Go.RowKit
set_option linter.unusedVariables false
set_option linter.unusedSimpArgs false

/-- The rows as they lie. -/
def RowsAt (w : World) (g : Nat) (l : List Ent) : Prop := ∀ i, (h : i < l.length) →
  w.cell? ⟨g, i * 8, none⟩ = some (.int .i64 l[i].b.h.k) ∧ w.cell? ⟨g, i * 8 + 1, none⟩ = some (.int .i64 l[i].b.h.m) ∧ w.cell? ⟨g, i * 8 + 2, none⟩ = some (.int .i64 l[i].b.h.f) ∧ w.cell? ⟨g, i * 8 + 3, none⟩ = some (.int .i64 l[i].b.h.t) ∧
  w.cell? ⟨g, i * 8 + 4, none⟩ = some (.slice l[i].b.h.np l[i].b.h.nn l[i].b.h.nc) ∧ w.cell? ⟨g, i * 8 + 5, none⟩ = some (.slice l[i].b.h.kp l[i].b.h.kn l[i].b.h.kc) ∧ w.cell? ⟨g, i * 8 + 6, none⟩ = some (.int .i64 l[i].up) ∧ w.cell? ⟨g, i * 8 + 7, none⟩ = some (.int .i64 l[i].deep)
theorem cellsR_at (l : List Ent) (i j : Nat) (h : i < l.length) (hj : j < 8) : (cellsR l)[i * 8 + j]? = (rowCells l[i])[j]? := by
  induction l generalizing i with
  | nil => simp at h
  | cons x r ih =>
    have hx : (rowCells x).length = 8 := rfl
    simp only [cellsR]
    cases i with
    | zero => rw [List.getElem?_append_left (by omega)]; simp
    | succ i =>
      rw [List.getElem?_append_right (by omega), hx, show (i + 1) * 8 + j - 8 = i * 8 + j by omega]
      exact ih i (by simpa using h)
theorem rowsAt_of {w : World} {base : Nat} {v : Value} {l : List Ent} (h : w.ownsRow base 43 8 v l.length (cellsR l)) (hl : 0 < l.length) : ∃ g c, v = .slice (some ⟨g, 0, none⟩) l.length c ∧ l.length ≤ c ∧ g < w.heap.size ∧ RowsAt w g l := by
  obtain ⟨g, c, rfl, _, hg, hc, _⟩ := own_pos h hl
  refine ⟨g, c, rfl, hc, hg, fun i hi => ?_⟩
  have hcell := fun j (hj : j < 8) u (hu : (rowCells l[i])[j]? = some u) => own_cell h (i * 8 + j) u (by rw [cellsR_at l i j hi hj, hu])
  exact ⟨hcell 0 (by omega) _ rfl, hcell 1 (by omega) _ rfl, hcell 2 (by omega) _ rfl, hcell 3 (by omega) _ rfl, hcell 4 (by omega) _ rfl, hcell 5 (by omega) _ rfl, hcell 6 (by omega) _ rfl, hcell 7 (by omega) _ rfl⟩
theorem RowsAt.step {w w1 : World} {g : Nat} {l : List Ent} (h : RowsAt w g l) (hg : g < w.heap.size) (hw : Below w.heap.size w w1) : RowsAt w1 g l := fun i hi => by
  obtain ⟨a0, a1, a2, a3, a4, a5, a6, a7⟩ := h i hi
  exact ⟨(hw.cell (p := ⟨g, _, none⟩) hg).trans a0, (hw.cell (p := ⟨g, _, none⟩) hg).trans a1, (hw.cell (p := ⟨g, _, none⟩) hg).trans a2, (hw.cell (p := ⟨g, _, none⟩) hg).trans a3, (hw.cell (p := ⟨g, _, none⟩) hg).trans a4, (hw.cell (p := ⟨g, _, none⟩) hg).trans a5, (hw.cell (p := ⟨g, _, none⟩) hg).trans a6, (hw.cell (p := ⟨g, _, none⟩) hg).trans a7⟩

def entSees (tok : Int) (e : Ent) : Bool := decide (e.b.h.f ≤ tok) && decide (tok < e.b.h.t)
theorem climb_det {up : Nat → Option Int} : ∀ {x : Int} {a b : List Nat}, Climb up x a → Climb up x b → a = b := by
  intro x a
  induction a generalizing x with
  | nil =>
    intro b ha hb
    cases b with
    | nil => rfl
    | cons k r => obtain ⟨rfl, _⟩ := hb; have : ((k : Nat) : Int) < 0 := ha; omega
  | cons k r ih =>
    intro b ha hb
    obtain ⟨rfl, y, hy, h2⟩ := ha
    cases b with
    | nil => have : ((k : Nat) : Int) < 0 := hb; omega
    | cons k' r' =>
      obtain ⟨h1, y', hy', h3⟩ := hb
      have : k' = k := by omega
      subst this
      rw [hy] at hy'
      obtain rfl := Option.some.inj hy'
      rw [ih h2 h3]
theorem climb_of (b : Br) : ∀ i, i < b.size → ∃ ks, Climb (fun i => b.all[i]?.map Ent.up) (i : Int) ks ∧ ks.length ≤ i + 1 := by
  intro i
  induction i using Nat.strongRecOn with
  | _ i ih =>
    intro hi
    obtain ⟨e, he⟩ := all_some hi
    rcases up_of he with ⟨rfl, h1⟩ | ⟨u, h1, h2⟩
    · exact ⟨[0], ⟨rfl, -1, by simp [he, h1], by show (-1 : Int) < 0; omega⟩, by simp⟩
    · obtain ⟨ks, hks, hl⟩ := ih u h2 (by omega)
      exact ⟨i :: ks, ⟨rfl, u, by simp [he, h1], hks⟩, by simp; omega⟩
def seesL (l : List Ent) (tok : Int) (k : Nat) : Bool := match l[k]? with
  | some e => decide (e.b.h.f ≤ tok) && decide (tok < e.b.h.t)
  | none => false
/-- The best one of the first n. -/
def Best (deep : Nat → Int) (ok : Nat → Bool) (n : Nat) (v : Int) : Prop :=
  (v = -1 ∧ ∀ i, i < n → ok i = false) ∨ ∃ k : Nat, k < n ∧ v = (k : Int) ∧ ok k = true ∧ ∀ i, i < n → ok i = true → deep i ≤ deep k ∧ (deep i = deep k → i ≤ k)
theorem best_det {deep : Nat → Int} {ok : Nat → Bool} {n : Nat} {v v' : Int} (h : Best deep ok n v) (h' : Best deep ok n v') : v = v' := by
  rcases h with ⟨rfl, h1⟩ | ⟨k, hk, rfl, h1, h2⟩
  · rcases h' with ⟨rfl, _⟩ | ⟨k, hk, rfl, h3, _⟩
    · rfl
    · rw [h1 k hk] at h3; cases h3
  · rcases h' with ⟨rfl, h3⟩ | ⟨k', hk', rfl, h3, h4⟩
    · rw [h3 k hk] at h1; cases h1
    · have a1 := h2 k' hk' h3
      have a2 := h4 k hk h1
      have : deep k = deep k' := by omega
      have b1 := a1.2 this.symm
      have b2 := a2.2 this
      have : k = k' := by omega
      rw [this]
def deepL (l : List Ent) (k : Nat) : Int := match l[k]? with
  | some e => e.deep
  | none => 0

set_option maxHeartbeats 4000000 in
theorem refWithin_any (l : List Ent) (tok : Int) (g c : Nat) (w : World) (hrows : RowsAt w g l) (hg : g < w.heap.size) (hlc : l.length ≤ c) (hl : l.length ≤ 1000) (paths : Nat → List Nat)
    (hpath : ∀ i, i < l.length → Climb (fun i => l[i]?.map Ent.up) (i : Int) (paths i)) :
    Calls Try.prog 25 #[.slice (some ⟨g, 0, none⟩) l.length c, .int .i64 tok] w fun e w' => ∃ v, e = .returned (.int .i64 v) ∧ Best (deepL l) (fun i => (paths i).all (seesL l tok)) l.length v ∧ Below w.heap.size w w' := by
  have HR := Lib.hid hrows
  have HP := Lib.hid hpath
  obtain ⟨ok, hok⟩ : ∃ ok : Nat → Bool, ok = fun i => (paths i).all (seesL l tok) := ⟨_, rfl⟩
  rw [← hok]
  have HOK := Lib.hid hok
  clear hrows hpath hok
  go_enter Try.func25, Try.ntmps25
  go_wp2_with fail
  go_loopw [5, 6] (fun bv nv wr => ∃ (n : Nat) (m : Nat) (best : Int), n ≤ l.length ∧ nv = .int .i64 n ∧ bv = .int .i64 best ∧ Hid (Best (deepL l) ok n best) ∧ wr = w.drewN m) (fun _ nv _ => l.length - (intOf nv).toNat)
  case atStart => exact ⟨0, 0, -1, by omega, rfl, rfl, Lib.hid (.inl ⟨rfl, fun i h => by omega⟩), rfl⟩
  case round =>
    obtain ⟨n, m, best, hn, rfl, rfl, HB, rfl⟩ := hrel
    by_cases hlt : n < l.length
    · have HC := Lib.hid (HP.out n hlt)
      have hokn : Hid (ok n = (paths n).all (seesL l tok)) := Lib.hid (by rw [HOK.out])
      generalize paths n = ks at *
      go_wp2_with fail
      go_loopg [7, 8] ks.length (fun gk av kv wr => ∃ (j : Nat) (x : Int) (a : Bool), gk + j = ks.length ∧ kv = .int .i64 x ∧ av = .bool a ∧ Hid (Climb (fun i => l[i]?.map Ent.up) x (ks.drop j)) ∧ Hid (a = (ks.take j).all (seesL l tok)) ∧ wr = w.drewN m)
      case atStart => exact ⟨0, n, true, by omega, rfl, rfl, Lib.hid (by simpa using HC.out), Lib.hid rfl, rfl⟩
      case round =>
        obtain ⟨j, x, a, hj, rfl, rfl, HX, HA, rfl⟩ := hrel
        by_cases hlt2 : j < ks.length
        · have hx := HX.out
          rw [List.drop_eq_getElem_cons hlt2] at hx
          obtain ⟨rfl, y, hy, hx2⟩ := hx
          have hy' : l[ks[j]]?.map Ent.up = some y := hy
          obtain ⟨e, he, rfl⟩ := Option.map_eq_some_iff.1 hy'
          obtain ⟨hkl, hee⟩ := List.getElem?_eq_some_iff.1 he
          obtain ⟨z0, z1, a2, a3, z4, z5, a6, z7⟩ := HR.out ks[j] hkl
          rw [hee] at a2 a3 a6
          have HX2 := Lib.hid hx2
          have HT : Hid ((ks.take (j + 1)).all (seesL l tok) = ((ks.take j).all (seesL l tok) && (decide (e.b.h.f ≤ tok) && decide (tok < e.b.h.t)))) := Lib.hid (by
            rw [List.take_succ_eq_append_getElem hlt2, List.all_append]
            simp [seesL, he])
          have hr1 : (0 : Int) ≤ ((ks[j] : Nat) : Int) := by omega
          have hr2 : ((ks[j] : Nat) : Int) < (l.length : Int) := by omega
          clear z0 z1 z4 z5 z7 hx2 hy hy' he hkl hee HX
          generalize ks[j] = k at *
          cases a
          · have HA2 : Hid (false = (ks.take (j + 1)).all (seesL l tok)) := Lib.hid (by rw [HT.out, ← HA.out]; rfl)
            go_wp2_with fail
            go_roundg (ks.length - (j + 1))
            case measure => omega
            case rel => exact ⟨j + 1, e.up, false, by omega, rfl, rfl, HX2, HA2, rfl⟩
          · by_cases h1 : e.b.h.f ≤ tok
            · by_cases h2 : tok < e.b.h.t
              · have HA2 : Hid (true = (ks.take (j + 1)).all (seesL l tok)) := Lib.hid (by rw [HT.out, ← HA.out]; simp [h1, h2])
                go_wp2_with fail
                go_roundg (ks.length - (j + 1))
                case measure => omega
                case rel => exact ⟨j + 1, e.up, true, by omega, rfl, rfl, HX2, HA2, rfl⟩
              · have HA2 : Hid (false = (ks.take (j + 1)).all (seesL l tok)) := Lib.hid (by rw [HT.out, ← HA.out]; simp [h2])
                go_wp2_with fail
                go_roundg (ks.length - (j + 1))
                case measure => omega
                case rel => exact ⟨j + 1, e.up, false, by omega, rfl, rfl, HX2, HA2, rfl⟩
            · have HA2 : Hid (false = (ks.take (j + 1)).all (seesL l tok)) := Lib.hid (by rw [HT.out, ← HA.out]; simp [h1])
              go_wp2_with fail
              go_roundg (ks.length - (j + 1))
              case measure => omega
              case rel => exact ⟨j + 1, e.up, false, by omega, rfl, rfl, HX2, HA2, rfl⟩
        · have hx := HX.out
          rw [List.drop_eq_nil_of_le (by omega)] at hx
          have hx0 : x < 0 := hx
          have hx1 : ¬ (0 : Int) ≤ x := by omega
          have HA1 : Hid (ok n = a) := Lib.hid (by rw [hokn.out, HA.out, List.take_of_length_le (by omega)])
          clear hx HX HA
          have hn1 : (0 : Int) ≤ (n : Int) := by omega
          have hn2 : (n : Int) < (l.length : Int) := by omega
          have hdn : deepL l n = l[n].deep := by simp [deepL, hlt]
          have HDN := Lib.hid hdn
          clear hdn
          cases a
          · have HB2 : Hid (Best (deepL l) ok (n + 1) best) := Lib.hid (by
              rcases HB.out with ⟨rfl, h1⟩ | ⟨k, h1, rfl, h2, h3⟩
              · exact .inl ⟨rfl, fun i hi => by
                  rcases Nat.lt_or_ge i n with h | h
                  · exact h1 i h
                  · obtain rfl : i = n := by omega
                    exact HA1.out⟩
              · exact .inr ⟨k, by omega, rfl, h2, fun i hi ho => by
                  rcases Nat.lt_or_ge i n with h | h
                  · exact h3 i h ho
                  · obtain rfl : i = n := by omega
                    rw [HA1.out] at ho; cases ho⟩)
            go_wp2_with fail
            go_quiet (fail)
            go_wp2_with fail
            go_roundw
            case rel => exact ⟨n + 1, _, best, by omega, by go_num, rfl, HB2, rfl⟩
            case measure => simp [intOf]; omega
          · obtain ⟨_, _, _, _, _, _, _, a7⟩ := HR.out n hlt
            rcases HB.out with ⟨rfl, h1⟩ | ⟨k, h1, rfl, h2, h3⟩
            · have HB2 : Hid (Best (deepL l) ok (n + 1) (n : Int)) := Lib.hid (.inr ⟨n, by omega, rfl, HA1.out, fun i hi ho => by
                rcases Nat.lt_or_ge i n with h | h
                · rw [h1 i h] at ho; cases ho
                · obtain rfl : i = n := by omega
                  exact ⟨Int.le_refl _, fun _ => Nat.le_refl _⟩⟩)
              generalize l[n].deep = dn at *
              clear h1
              go_wp2_with fail
              go_quiet (fail)
              go_wp2_with fail
              go_roundw
              case rel => exact ⟨n + 1, _, (n : Int), by omega, by go_num, rfl, HB2, rfl⟩
              case measure => simp [intOf]; omega
            · have hkl : k < l.length := by omega
              obtain ⟨_, _, _, _, _, _, _, b7⟩ := HR.out k hkl
              have hdk : deepL l k = l[k].deep := by simp [deepL, hkl]
              have hk1 : (0 : Int) ≤ (k : Int) := by omega
              have hk2 : (k : Int) < (l.length : Int) := by omega
              have hk3 : ¬ (k : Int) < 0 := by omega
              by_cases hcmp : l[k].deep ≤ l[n].deep
              · have HB2 : Hid (Best (deepL l) ok (n + 1) (n : Int)) := Lib.hid (.inr ⟨n, by omega, rfl, HA1.out, fun i hi ho => by
                  rcases Nat.lt_or_ge i n with h | h
                  · have := (h3 i h ho).1
                    have e1 := HDN.out
                    exact ⟨by omega, fun _ => by omega⟩
                  · obtain rfl : i = n := by omega
                    exact ⟨Int.le_refl _, fun _ => Nat.le_refl _⟩⟩)
                clear h1 h2 h3 hdk
                generalize l[n].deep = dn at *
                generalize l[k].deep = dk at *
                go_wp2_with fail
                go_quiet (fail)
                go_wp2_with fail
                go_roundw
                case rel => exact ⟨n + 1, _, (n : Int), by omega, by go_num, rfl, HB2, rfl⟩
                case measure => simp [intOf]; omega
              · have HB2 : Hid (Best (deepL l) ok (n + 1) (k : Int)) := Lib.hid (.inr ⟨k, by omega, rfl, h2, fun i hi ho => by
                  rcases Nat.lt_or_ge i n with h | h
                  · exact h3 i h ho
                  · obtain rfl : i = n := by omega
                    have e1 := HDN.out
                    exact ⟨by omega, fun _ => by omega⟩⟩)
                clear h1 h2 h3 hdk
                generalize l[n].deep = dn at *
                generalize l[k].deep = dk at *
                go_wp2_with fail
                go_quiet (fail)
                go_wp2_with fail
                go_roundw
                case rel => exact ⟨n + 1, _, (k : Int), by omega, by go_num, rfl, HB2, rfl⟩
                case measure => simp [intOf]; omega
    · have hnl : n = l.length := by omega
      subst hnl
      go_wp2_with fail
      go_ret
      exact ⟨best, rfl, HB.out, below_drewN (Below.refl _ _) _⟩
end Go.Proofs.Ytcijjeflojaocaa
