/-
  The numbers that are nowhere in a map (New), walked.
-/
import Derived.Test.YtggoajpemffbiaaNw1
namespace Go.Proofs.Ytggoajpemffbiaa
open Go.RowKit
set_option maxRecDepth 20000
set_option linter.unusedVariables false
set_option linter.unusedSimpArgs false

theorem selN_congr {p q : Nat → Bool} {n : Nat} (h : ∀ i, i < n → p i = q i) : selN p n = selN q n := by
  unfold selN
  congr 1
  exact List.filter_congr fun x hx => h x (List.mem_range.1 hx)
theorem W64.nat {i : Nat} (h : i ≤ 1000000000) : W64 (i : Int) := by unfold W64; omega
theorem snoc_cond {A : List Int} {x y n : Int} (h : ¬ (0 ≤ x ∧ x < n)) : (y ∈ A ++ [x] ∧ 0 ≤ y ∧ y < n) ↔ (y ∈ A ∧ 0 ≤ y ∧ y < n) := by
  constructor
  · rintro ⟨a, b⟩
    rcases List.mem_append.1 a with a | a
    · exact ⟨a, b⟩
    · simp only [List.mem_singleton] at a; subst a; exact absurd b h
  · rintro ⟨a, b⟩; exact ⟨List.mem_append_left _ a, b⟩
def restN (l : List Int) (N : Nat) : List Int := selN (fun i => !inI l (i : Int)) N
theorem inI_congr {l k : List Int} {x : Int} (h : x ∈ l ↔ x ∈ k) : inI l x = inI k x := by
  have h1 := inI_iff l x
  have h2 := inI_iff k x
  cases a : inI l x <;> cases b : inI k x <;> simp [a, b] at h1 h2 <;> simp_all
theorem boxmap_new (w : World) : SetI ((w.alloc (.map #[] 0)).alloc (.cells #[.map (some w.heap.size)] 48)) w.heap.size [] ∧ ((w.alloc (.map #[] 0)).alloc (.cells #[.map (some w.heap.size)] 48)).heap[w.heap.size + 1]? = some (.cells #[.map (some w.heap.size)] 48 (0, 0)) ∧ Below w.heap.size w ((w.alloc (.map #[] 0)).alloc (.cells #[.map (some w.heap.size)] 48)) := by
  have m1 := SetI.made w
  have z1 : (w.alloc (.map #[] 0)).heap.size = w.heap.size + 1 := by simp
  have b1 : Below w.heap.size w (w.alloc (.map #[] 0)) := (Below.refl _ _).alloc (Nat.le_refl _) _
  generalize w.alloc (.map #[] 0) = w1 at *
  have b2 : Below w1.heap.size w1 (w1.alloc (.cells #[.map (some w.heap.size)] 48)) := (Below.refl _ _).alloc (Nat.le_refl _) _
  have e2 := heap_new w1 (.cells #[.map (some w.heap.size)] 48)
  rw [z1] at e2
  exact ⟨m1.step b2, e2, b1.trans (b2.mono (by omega))⟩
set_option maxHeartbeats 4000000 in
theorem new_big (n : Int) (p : Option Addr) (k c : Nat) (w : World) (hn : 16777216 < n) :
    Calls Try.prog 14 #[.int .i64 n, .slice p k c] w fun e w' => e = .returned (.slice none 0 0) ∧ w' = w := by
  go_enter Try.func14, Try.ntmps14
  go_wp2_with fail
  go_ret
  exact ⟨rfl, rfl⟩
set_option maxHeartbeats 4000000 in
theorem new_any (n : Int) (N : Nat) (p : Option Addr) (k c : Nat) (l : List Int) (w : World) (hp : IS w p k c l) (hk : k ≤ 1000) (hw : ∀ x ∈ l, W64 x) (hN : N ≤ 1000) (hn : n = N ∨ (n < 0 ∧ N = 0)) (hn0 : W64 n) :
    Calls Try.prog 14 #[.int .i64 n, .slice p k c] w fun e w' => ∃ v, e = .returned v ∧ OwnI w' w.heap.size v (restN l N) ∧ Below w.heap.size w w' := by
  have hmm := @run_makeMap Try.prog
  obtain ⟨HN1, HN2, HN3⟩ := boxmap_new w
  have HP := Lib.hid hp
  have HL := Lib.hid hp.1
  have HW := Lib.hid hw
  have HN := Lib.hid hn
  have hn1 : ¬ 16777216 < n := by omega
  have HS0 := Lib.hid HN1
  have HX0 := Lib.hid HN2
  have HB0 := Lib.hid HN3
  clear HN1 HN2 HN3 hp hw hn
  go_enter Try.func14, Try.ntmps14
  go_wp2_with fail
  generalize (w.alloc (.map #[] 0)).alloc (.cells #[.map (some w.heap.size)] 48) = W0 at *
  obtain ⟨M, hM⟩ : ∃ M, M = w.heap.size := ⟨_, rfl⟩
  obtain ⟨B, hB⟩ : ∃ B, B = w.heap.size + 1 := ⟨_, rfl⟩
  have hMB : M ≠ B := by omega
  have hBM : B ≠ M := by omega
  have HM : Hid (w.heap.size ≤ M) := Lib.hid (by omega)
  rw [← hB] at HX0 ⊢
  rw [← hM] at HX0
  have HS1 : Hid (SetI W0 M []) := Lib.hid (by rw [hM]; exact HS0.out)
  clear HS0
  have HMB := Lib.hid hM
  clear hM hB
  go_loopw [13] (fun i wr => ∃ (j : Nat) (ks : List Int), j ≤ k ∧ i = .int .i64 j ∧ Hid (SetI wr M ks) ∧ Hid (∀ x, x ∈ ks ↔ x ∈ l.take j ∧ 0 ≤ x ∧ x < n) ∧ Hid (wr.heap[B]? = some (.cells #[.map (some M)] 48 (0, 0))) ∧ Hid (Below w.heap.size w wr)) (fun i _ => k - (intOf i).toNat)
  case atStart => exact ⟨0, [], by omega, rfl, HS1, Lib.hid (fun x => by simp), HX0, HB0⟩
  case round =>
    obtain ⟨j, ks, hj, rfl, HS, HK, HX, HB⟩ := hrel
    clear HS1 HX0 HB0
    by_cases hlt : j < k
    · obtain ⟨hmm, h0 | ⟨gb, o, rfl, hcb, hgb, hat⟩⟩ := HP.out
      · omega
      clear hmm
      obtain ⟨x, hx⟩ : ∃ x, l[j]? = some x := ⟨_, List.getElem?_eq_getElem (by have := HL.out; omega)⟩
      have c0 : wr.cell? ⟨gb, o + j, none⟩ = some (.int .i64 x) := (HB.out.cell (p := ⟨gb, _, none⟩) hgb).trans (hat j x hx)
      have hgb2 : gb < wr.heap.size := Nat.lt_of_lt_of_le hgb HB.out.size
      have b0 : wr.cell? ⟨B, 0, none⟩ = some (.map (some M)) := (cellH HX.out 0).trans rfl
      have s1 : (0 : Int) ≤ (j : Int) := by omega
      have s2 : (j : Int) < (k : Int) := by omega
      have HTK := Lib.hid (take_snoc hx)
      have HXW := Lib.hid (HW.out x (List.mem_of_getElem? hx))
      clear hx hat
      by_cases h1 : 0 ≤ x
      · by_cases h2 : x < n
        · have HK2 : Hid (∀ y, y ∈ addI ks x ↔ y ∈ l.take (j + 1) ∧ 0 ≤ y ∧ y < n) := Lib.hid fun y => by
            rw [mem_addI, HTK.out, HK.out]; simp
            constructor
            · rintro (⟨a, b, c⟩ | rfl)
              · exact ⟨.inl a, b, c⟩
              · exact ⟨.inr rfl, h1, h2⟩
            · rintro ⟨a | rfl, b, c⟩
              · exact .inl ⟨a, b, c⟩
              · exact .inr rfl
          go_wp2_with (at_mapUpdate; refine wpList_setupd _ rfl _ _ _ rfl M ks rfl HS.out x HXW.out rfl rfl ?_; intro w1 hs1 hw1; have HS2 := Lib.hid hs1; have HX2 : Hid (w1.heap[B]? = some (.cells #[.map (some M)] 48 (0, 0))) := Lib.hid ((hw1.blk B hBM).trans HX.out); have HB2 := Lib.hid (hw1.bel _ _ HM.out HB.out); clear hs1 hw1)
          go_roundw
          case rel => exact ⟨j + 1, _, by omega, by go_num, HS2, HK2, HX2, HB2⟩
          case measure => simp [intOf]; omega
        · have HK2 : Hid (∀ y, y ∈ ks ↔ y ∈ l.take (j + 1) ∧ 0 ≤ y ∧ y < n) := Lib.hid fun y => by
            rw [HTK.out, HK.out]; exact (snoc_cond (fun e => h2 e.2)).symm
          go_wp2_with fail
          go_roundw
          case rel => exact ⟨j + 1, _, by omega, by go_num, HS, HK2, HX, HB⟩
          case measure => simp [intOf]; omega
      · have HK2 : Hid (∀ y, y ∈ ks ↔ y ∈ l.take (j + 1) ∧ 0 ≤ y ∧ y < n) := Lib.hid fun y => by
          rw [HTK.out, HK.out]; exact (snoc_cond (fun e => h1 e.1)).symm
        go_wp2_with fail
        go_roundw
        case rel => exact ⟨j + 1, _, by omega, by go_num, HS, HK2, HX, HB⟩
        case measure => simp [intOf]; omega
    · have hjk : j = k := by omega
      have HKF : Hid (∀ x, x ∈ ks ↔ x ∈ l ∧ 0 ≤ x ∧ x < n) := Lib.hid (by have := HK.out; rwa [hjk, HL.out, List.take_length] at this)
      have HR : Hid (selN (fun i => !inI ks (i : Int)) N = restN l N) := Lib.hid (selN_congr fun i hi => by
        congr 1
        refine inI_congr ?_
        rw [HKF.out]
        constructor
        · exact fun h => h.1
        · intro h; refine ⟨h, by omega, ?_⟩
          rcases HN.out with e | e <;> omega)
      clear hjk
      have HT := Lib.hid (those_any 25 #[.pointer (some ⟨B, 0, none⟩)] (fun i => !inI ks (i : Int)) N n wr hN HN.out cf25 (fun i W hi hW => by
        refine (new1_any (i : Int) B M ks W ?_ (HS.out.step hW) (W64.nat (by omega)))
        exact (cellH (heap_step HX.out hW) 0).trans rfl))
      go_wp2_with (go_at_call 23; refine HT.out.mono ?_; rintro e w1 ⟨v, rfl, ho, hb⟩; have HO := Lib.hid (ho.base (b' := w.heap.size) HB.out.size); have HB1 := Lib.hid (HB.out.trans (hb.mono HB.out.size)); rw [HR.out] at HO; clear ho hb)

      go_ret
      exact ⟨_, rfl, HO.out, HB1.out⟩
end Go.Proofs.Ytggoajpemffbiaa
