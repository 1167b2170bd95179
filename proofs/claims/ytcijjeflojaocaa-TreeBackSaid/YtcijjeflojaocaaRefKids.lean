/-
  The document's Kids and Below over the rows.
-/
import Derived.Test.YtcijjeflojaocaaTreeWithin
namespace Go.Proofs.Ytcijjeflojaocaa
open Go.RowKit
set_option linter.unusedVariables false
set_option linter.unusedSimpArgs false

theorem upsAt_take (l : List Ent) (n : Int) (i : Nat) (h : i < l.length) : upsAt (l.take (i + 1)) 0 n = upsAt (l.take i) 0 n ++ (bif l[i].up == n then [i] else []) := by
  rw [List.take_succ_eq_append_getElem h, upsAt_append]
  congr 1
  have : (l.take i).length = i := by rw [List.length_take]; omega
  simp only [upsAt, List.append_nil, this, Nat.zero_add]
theorem upsAt_len (l : List Ent) (m : Nat) (n : Int) : (upsAt l m n).length ≤ l.length := by
  induction l generalizing m with
  | nil => simp [upsAt]
  | cons x r ih =>
    simp only [upsAt, List.length_append, List.length_cons]
    have := ih (m + 1)
    cases (x.up == n) <;> simp <;> omega

set_option maxHeartbeats 4000000 in
theorem refKids_any (l : List Ent) (u g c : Nat) (w : World) (hrows : RowsAt w g l) (hg : g < w.heap.size) (hlc : l.length ≤ c) (hl : l.length ≤ 1000) :
    Calls Try.prog 21 #[.slice (some ⟨g, 0, none⟩) l.length c, .int .i64 u] w fun e w' => ∃ v, e = .returned v ∧ OwnN w' w.heap.size v (upsAt l 0 (u : Int)) ∧ Below w.heap.size w w' := by
  obtain ⟨i0, hi0, hy0, hy1, hy2⟩ := info_parts info3
  have HR := Lib.hid hrows
  have hu1 : (0 : Int) ≤ (u : Int) := by omega
  clear hrows
  go_enter Try.func21, Try.ntmps21
  go_wp2_with fail
  go_loopw [5, 6] (fun v iv wr => ∃ i : Nat, i ≤ l.length ∧ iv = .int .i64 i ∧ OwnN wr w.heap.size v (upsAt (l.take i) 0 (u : Int)) ∧ Below w.heap.size w wr) (fun _ iv _ => l.length - (intOf iv).toNat)
  case atStart => exact ⟨0, by omega, rfl, World.ownsRow_nil _ _ _ _, Below.refl _ _⟩
  case round =>
    obtain ⟨i, hi, rfl, hown, hbe⟩ := hrel
    have hz := hbe.size
    by_cases hlt : i < l.length
    · obtain ⟨_, _, _, _, _, _, a6, _⟩ := HR.out.step hg hbe i hlt
      have hT := upsAt_take l (u : Int) i hlt
      have hql : (upsAt (l.take i) 0 (u : Int)).length ≤ 1000 := by have := upsAt_len (l.take i) 0 (u : Int); rw [List.length_take] at this; omega
      have HB := Lib.hid hbe
      have HO := Lib.hid hown
      obtain ⟨p', c', rfl⟩ := ownN_form hown
      have hr1 : (0 : Int) ≤ (i : Int) := by omega
      have hr2 : (i : Int) < (l.length : Int) := by omega
      cases heq : (l[i].up == (u : Int))
      · rw [heq, cond_false, List.append_nil] at hT
        have HO2 : Hid (OwnN wr w.heap.size (.slice p' (upsAt (l.take i) 0 (u : Int)).length c') (upsAt (l.take (i + 1)) 0 (u : Int))) := Lib.hid (by rw [hT]; exact HO.out)
        clear hT hown hbe
        generalize (upsAt (l.take i) 0 (u : Int)).length = q at *
        generalize l[i].up = y at *
        go_wp2_with fail
        go_roundw
        case rel => exact ⟨i + 1, by omega, by go_num, HO2.out, HB.out⟩
        case measure => simp [intOf]; omega
      · rw [heq, cond_true] at hT
        have HT := Lib.hid hT
        generalize upsAt (l.take i) 0 (u : Int) = A at *
        have HLEN : Hid ((A ++ [i]).length = A.length + 1) := Lib.hid (by simp)
        have HO9 : Hid (wr.ownsRow w.heap.size 3 1 (.slice p' A.length c') A.length (A.map mkN)) := HO
        clear hT hown hbe
        generalize A.length = q at *
        generalize l[i].up = y at *
        have HBa : Hid (Below w.heap.size w (wr.alloc (.cells #[.int .i64 (i : Int)] 3))) := Lib.hid (HB.out.alloc hz _)
        go_wp2_with (at_builtin; refine wpList_append_own _ rfl _ _ 22 rfl w.heap.size 3 i0 _ 1 8 Try.underlying22 hi0 hy0 hy1 hy2 rfl (by omega) _ q _ rfl (World.ownsRow.alloc HO9.out _) ⟨wr.heap.size, 0, none⟩ 1 1 [.int .i64 (i : Int)] rfl rfl (one_news _ _ _ rfl) (by simp [Value.oneCell']) (by unfold maxLen; omega) (by omega) (by simp; omega) ?_)
        intro v5 w5 hown5 hgrow _
        have HO5 : Hid (OwnN w5 w.heap.size v5 (A ++ [i])) := Lib.hid (by
          unfold OwnN
          rw [HLEN.out, List.map_append]
          exact hown5)
        have HB5 := Lib.hid (HBa.out.grown hgrow (by simp; omega) (own_below HO9.out (Nat.le_refl _)))
        clear hown5 hgrow
        go_wp2_with fail
        go_roundw
        case rel => exact ⟨i + 1, by omega, by go_num, by rw [HT.out]; exact HO5.out, HB5.out⟩
        case measure => simp [intOf]; omega
    · have hil : i = l.length := by omega
      rw [List.take_of_length_le (by omega)] at hown
      have HO := Lib.hid hown
      have HB := Lib.hid hbe
      clear hown hbe
      go_wp2_with fail
      go_ret
      exact ⟨_, rfl, HO.out, HB.out⟩

set_option maxHeartbeats 4000000 in
theorem refBelow_any (l : List Ent) (k n g c : Nat) (w : World) (hrows : RowsAt w g l) (hg : g < w.heap.size) (hlc : l.length ≤ c) (hl : l.length ≤ 1000) (P : List Nat)
    (hp : Climb (fun i => l[i]?.map Ent.up) (k : Int) P) (hP : P.length ≤ l.length) :
    Calls Try.prog 22 #[.slice (some ⟨g, 0, none⟩) l.length c, .int .i64 k, .int .i64 n] w fun e w' => e = .returned (.bool (P.contains n)) ∧ w = w' := by
  have HR := Lib.hid hrows
  have HP := Lib.hid hp
  have hn0 : (0 : Int) ≤ (n : Int) := by omega
  clear hrows hp
  obtain ⟨q, hq⟩ : ∃ q, q = P.contains n := ⟨_, rfl⟩
  rw [← hq]
  have HQ := Lib.hid hq
  clear hq
  go_enter Try.func22, Try.ntmps22
  go_wp2_with fail
  go_loopw [1, 7] (fun kv iv wr => w = wr ∧ ∃ (i : Nat) (x : Int), i ≤ P.length ∧ iv = .int .i64 i ∧ kv = .int .i64 x ∧ Hid (Climb (fun i => l[i]?.map Ent.up) x (P.drop i)) ∧ Hid (q = (P.drop i).contains n)) (fun _ iv _ => P.length - (intOf iv).toNat)
  case atStart => exact ⟨rfl, 0, k, by omega, rfl, rfl, Lib.hid HP.out, Lib.hid HQ.out⟩
  case round =>
    obtain ⟨rfl, i, x, hi, rfl, rfl, HX, HN⟩ := hrel
    by_cases hlt : i < P.length
    · have hx := HX.out
      have hnn := HN.out
      rw [List.drop_eq_getElem_cons hlt] at hx hnn
      obtain ⟨rfl, y, hy, hx2⟩ := hx
      have hy' : l[P[i]]?.map Ent.up = some y := hy
      obtain ⟨e, he, rfl⟩ := Option.map_eq_some_iff.1 hy'
      obtain ⟨hkl, hee⟩ := List.getElem?_eq_some_iff.1 he
      obtain ⟨z0, z1, z2, z3, z4, z5, a6, z7⟩ := HR.out P[i] hkl
      rw [hee] at a6
      have HX2 := Lib.hid hx2
      have HNN := Lib.hid hnn
      have hr1 : (0 : Int) ≤ ((P[i] : Nat) : Int) := by omega
      have hr2 : ((P[i] : Nat) : Int) < (l.length : Int) := by omega
      have hr3 : (i : Int) < (l.length : Int) := by omega
      clear z0 z1 z2 z3 z4 z5 z7 hx2 hy hy' he hkl hee HX hnn HN
      generalize P[i] = kk at *
      by_cases hkn : kk = n
      · subst hkn
        have hqt : q = true := by rw [HNN.out]; simp
        subst hqt
        go_wp2_with fail
        go_ret
        exact ⟨rfl, rfl⟩
      · have HN2 : Hid (q = (P.drop (i + 1)).contains n) := Lib.hid (by
          rw [HNN.out]
          have : ¬ n = kk := fun h => hkn h.symm
          simp [this])
        have hne : ((kk : Int) == (n : Int)) = false := by rw [beq_eq_false_iff_ne]; omega
        go_wp2_with fail
        go_roundw
        case rel => exact ⟨by first | trivial | rfl, i + 1, e.up, by omega, by go_num, rfl, HX2, HN2⟩
        case measure => simp [intOf]; omega
    · have hx := HX.out
      have hnn := HN.out
      rw [List.drop_eq_nil_of_le (by omega)] at hx hnn
      have hx0 : x < 0 := hx
      have hx1 : ¬ (0 : Int) ≤ x := by omega
      have hqf : q = false := by rw [hnn]; rfl
      subst hqf
      have hne : (x == (n : Int)) = false := by rw [beq_eq_false_iff_ne]; omega
      clear hx hnn HX HN
      by_cases hil : (i : Int) < (l.length : Int)
      · go_wp2_with fail
        go_ret
        exact ⟨by first | trivial | rfl, rfl⟩
      · go_wp2_with fail
        go_ret
        exact ⟨by first | trivial | rfl, rfl⟩

/-- What is reached by climbing is what a part lies in. -/
theorem below_iff {b : Br} {paths : Nat → List Nat} (hpath : ∀ i, i < b.all.length → Climb (fun i => b.all[i]?.map Ent.up) (i : Int) (paths i)) {n : Nat} {en : Ent} (hn : b.all[n]? = some en) :
    ∀ k, k < b.all.length → (paths k).contains n = (decide (n ≤ k) && decide (k < n + en.b.size)) := by
  intro k
  induction k using Nat.strongRecOn with
  | _ k ih =>
    intro hk
    obtain ⟨e, he⟩ : ∃ e, b.all[k]? = some e := ⟨_, List.getElem?_eq_getElem hk⟩
    have hsp := en.b.size_pos
    rcases up_of he with ⟨rfl, h1⟩ | ⟨u, h1, h2⟩
    · have : paths 0 = [0] := climb_det (hpath 0 hk) ⟨rfl, -1, by simp [he, h1], by show (-1 : Int) < 0; omega⟩
      rw [this]
      by_cases h0 : n = 0
      · subst h0; simp; omega
      · have : ¬ n ≤ 0 := by omega
        simp [h0]
    · have : paths k = k :: paths u := climb_det (hpath k hk) ⟨rfl, u, by simp [he, h1], hpath u (by omega)⟩
      rw [this, List.contains_cons, ih u h2 (by omega)]
      obtain ⟨eu, heu⟩ : ∃ e, b.all[u]? = some e := ⟨_, List.getElem?_eq_getElem (by omega)⟩
      have hkid : k ∈ offs (u + 1) eu.b.ks := by rw [← kidsOf_at heu]; exact (kid_iff heu k).2 ⟨e, he, h1⟩
      obtain ⟨e', he', _, _, _, _, hke⟩ := kid_of heu k hkid
      have hep := e'.b.size_pos
      by_cases hnk : n = k
      · subst hnk
        have : n < n + en.b.size := by omega
        simp [this]
      · have hnk' : (n == k) = false := by simp [hnk]
        rw [hnk', Bool.false_or]
        by_cases h3 : n ≤ k ∧ k < n + en.b.size
        · obtain ⟨u', h4, h5⟩ := up_in hn he (by omega) h3.2
          have : u' = u := by omega
          subst this
          have h6 : u' < n + en.b.size := by omega
          simp [h3.1, h3.2, h5, h6]
        · by_cases h7 : n ≤ u ∧ u < n + en.b.size
          · have := end_in hn heu h7.1 h7.2
            exfalso; apply h3; omega
          · have e1 : (decide (n ≤ u) && decide (u < n + en.b.size)) = false := by
              rw [Bool.and_eq_false_iff, decide_eq_false_iff_not, decide_eq_false_iff_not]; omega
            have e2 : (decide (n ≤ k) && decide (k < n + en.b.size)) = false := by
              rw [Bool.and_eq_false_iff, decide_eq_false_iff_not, decide_eq_false_iff_not]; omega
            rw [e1, e2]
/-- The next one in a chain is the first greater one. -/
theorem chain_next {f : Nat → Option Int} {m : Nat} {y : Int} (hf : f m = some y) : ∀ {L : List Nat} {x : Int}, Chain f x L → L.Pairwise (· < ·) → m ∈ L → y = match L.find? (fun k => decide (m < k)) with | some k => (k : Int) | none => -1 := by
  intro L
  induction L with
  | nil => intro x _ _ h; cases h
  | cons k r ih =>
    intro x hc hs hm
    obtain ⟨rfl, z, hz, hc2⟩ := hc
    obtain ⟨hs1, hs2⟩ := List.pairwise_cons.1 hs
    by_cases hmk : m = k
    · subst hmk
      rw [hf] at hz
      obtain rfl := Option.some.inj hz
      cases r with
      | nil =>
        have : y = -1 := hc2
        simp [this]
      | cons k2 r2 =>
        obtain ⟨h1, _⟩ := hc2
        have : m < k2 := hs1 k2 (by simp)
        simp [this, h1]
    · have hmr : m ∈ r := by
        rcases List.mem_cons.1 hm with h | h
        · exact absurd h hmk
        · exact h
      have : ¬ m < k := by have := hs1 m hmr; omega
      simp only [List.find?_cons, decide_eq_false this]
      exact ih hc2 hs2 hmr
end Go.Proofs.Ytcijjeflojaocaa
