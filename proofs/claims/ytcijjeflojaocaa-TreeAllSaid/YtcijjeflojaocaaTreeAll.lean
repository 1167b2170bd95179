/-
  TreeAll: the walk.
-/
import Derived.Test.YtcijjeflojaocaaTreeWithin
import Derived.Lib.MinMax
import Derived.Laws.MakeOwn
namespace Go.Proofs.Ytcijjeflojaocaa
open Go.RowKit
set_option linter.unusedVariables false
set_option linter.unusedSimpArgs false

/-- 'make([]T, n, c)', both variable: a new block of zeros. -/
theorem wpList_make_room {P : Program} (w : World) {ops : Array Oper} {rest : List Oper} {o : Oper} {a : Act} {Q : Exit → Act → World → Prop}
    (hg : o.guard = none) (l c : Operand) (t : TypeId) (hop : o.op = Op.makeSlice t l c)
    (e : TypeId) (i : TypeInfo) (k : IntKind) (x : Int) (h1 : P.underlying t = some (.slice e)) (h2 : P.info? e = some i) (h3 : i.zero = some (.int k x)) (h4 : i.size = 1)
    (kl kc : IntKind) (L C : Int) (n m : Nat) (hl : a.eval l = .int kl L) (hc : a.eval c = .int kc C) (hL : L = (n : Int)) (hC : C = (m : Int)) (hnm : n ≤ m) (b2 : i.bytes * m ≤ 281474976710656) (b3 : (m : Int) ≤ 9223372036854775807)
    (hK : wpList P ops Q rest (a.put o.dst (.slice (some ⟨w.heap.size, 0, none⟩) n m)) (w.alloc (.cells (List.replicate m (Value.int k x)).toArray e))) :
    wpList P ops Q (o :: rest) a w := by
  refine wpList_plain hg fun K hK' => ?_
  have hb : (i.bytes : Int) * (m : Int) ≤ 281474976710656 := by
    have h : ((i.bytes * m : Nat) : Int) ≤ 281474976710656 := by omega
    rwa [Int.natCast_mul] at h
  have hrun := run_make (P := P) w t e i (.int k x) h1 h2 h3 kl kc (n : Int) (m : Int) (by omega) (by omega) hb b3
  have hm : madeCells (Value.int k x).cells (m * 1) = (List.replicate m (Value.int k x)).toArray := by
    rw [← toList_madeCells_one (Value.int k x) m, Nat.mul_one]
    rfl
  rw [h4, Int.toNat_natCast, Int.toNat_natCast, hm] at hrun
  subst hL hC
  unfold Oper.wp
  simp [execOp, hop, hl, hc, hrun, Result.andThen]
  exact hK' _ _ hK

/-- How often kids are met, as the law counts them. -/
def SeenAt (w : World) (gs N : Nat) (f : Nat → Int) : Prop := ∃ cur : Array Value, w.heap[gs]? = some (.cells cur 3 (0, 0)) ∧ ∀ k, k < N → cur[k]? = some (.int .i64 (f k))
theorem SeenAt.cell {w : World} {gs N : Nat} {f : Nat → Int} (h : SeenAt w gs N f) {k : Nat} (hk : k < N) : w.cell? ⟨gs, k, none⟩ = some (.int .i64 (f k)) ∧ w.frozen? ⟨gs, k, none⟩ = false := by
  obtain ⟨cur, h1, h2⟩ := h
  exact ⟨by rw [Lib.cell_of_heap h1, h2 k hk], frozen_of_row _ _ _ _ _ h1⟩
theorem SeenAt.kept {w w1 : World} {gs N : Nat} {f : Nat → Int} (h : SeenAt w gs N f) (hw : w1.heap[gs]? = w.heap[gs]?) : SeenAt w1 gs N f := by
  obtain ⟨cur, h1, h2⟩ := h
  exact ⟨cur, hw.trans h1, h2⟩
theorem SeenAt.set {w : World} {gs N : Nat} {f : Nat → Int} (h : SeenAt w gs N f) {k : Nat} (hk : k < N) (u : Int) : SeenAt (w.setCell ⟨gs, k, none⟩ (.int .i64 u)) gs N (fun i => bif i == k then u else f i) := by
  obtain ⟨cur, h1, h2⟩ := h
  refine ⟨_, heap_setCell_same w gs k cur 3 _ h1, fun i hi => ?_⟩
  cases hik : (i == k)
  · have : i ≠ k := by simpa using hik
    rw [Array.getElem?_setIfInBounds_ne (fun e => this e.symm), h2 i hi]; simp [hik]
  · have : i = k := by simpa using hik
    subst this
    have : i < cur.size := (Array.getElem?_eq_some_iff.1 (h2 i hi)).1
    simp [this]
theorem SeenAt.congr {w : World} {gs N : Nat} {f f' : Nat → Int} (h : SeenAt w gs N f) (hf : ∀ k, k < N → f k = f' k) : SeenAt w gs N f' := by
  obtain ⟨cur, h1, h2⟩ := h
  exact ⟨cur, h1, fun k hk => by rw [h2 k hk, hf k hk]⟩
/-- A parent's number; none of 0. -/
def parent (b : Br) (k : Nat) : Int := match b.all[k]? with
  | some e => e.up
  | none => -1
/-- What is counted when the kids of all below n are met, and those of n that lie in L. -/
def cnt (b : Br) (n : Nat) (L : List Nat) (k : Nat) : Int := bif decide (0 ≤ parent b k) && (decide (parent b k < n) || (decide (parent b k = n) && L.contains k)) then 1 else 0
theorem parent_at {b : Br} {k : Nat} {e : Ent} (h : b.all[k]? = some e) : parent b k = e.up := by simp only [parent, h]
theorem cnt_zero (b : Br) (k : Nat) : cnt b 0 [] k = 0 := by
  unfold cnt
  have : (decide (0 ≤ parent b k) && (decide (parent b k < ((0 : Nat) : Int)) || (decide (parent b k = ((0 : Nat) : Int)) && ([] : List Nat).contains k))) = false := by
    simp
  rw [this]; rfl
theorem cnt_kid (b : Br) (n : Nat) (L : List Nat) (x : Nat) (hp : parent b x = (n : Int)) (hx : x ∉ L) (k : Nat) : cnt b n (L ++ [x]) k = bif k == x then cnt b n L x + 1 else cnt b n L k := by
  unfold cnt
  cases hkx : (k == x)
  · have : k ≠ x := by simpa using hkx
    simp [this]
  · have : k = x := by simpa using hkx
    subst this
    have h1 : L.contains k = false := by simpa using hx
    simp [hp, h1, hx]
theorem cnt_next (b : Br) (n : Nat) (hn : n < b.size) (k : Nat) (hk : k < b.size) : cnt b n (kidsOf b n) k = cnt b (n + 1) [] k := by
  obtain ⟨e, he⟩ := all_some hk
  obtain ⟨en, hen⟩ := all_some hn
  have hi := kid_iff hen k
  unfold cnt
  rw [parent_at he]
  by_cases h : e.up = (n : Int)
  · have : (kidsOf b n).contains k = true := by
      rw [List.contains_iff_mem]; exact hi.2 ⟨e, he, h⟩
    have h2 : (n : Int) < (n : Int) + 1 := by omega
    have h3 := hi.2 ⟨e, he, h⟩
    simp [h, h2, h3]
  · have h2 : decide (e.up < (n : Int)) = decide (e.up < (n : Int) + 1) := by rw [decide_eq_decide]; omega
    simp [h, h2]
theorem cnt_all (b : Br) (k : Nat) (hk : k < b.size) : cnt b b.size [] k = min (k : Int) 1 := by
  obtain ⟨e, he⟩ := all_some hk
  unfold cnt
  rw [parent_at he]
  rcases up_of he with ⟨rfl, h1⟩ | ⟨u, h1, h2⟩
  · rw [h1]; simp; decide
  · rw [h1]
    have h3 : (0 : Int) ≤ (u : Int) := by omega
    have h4 : (u : Int) < (b.size : Int) := by omega
    simp [h3, h4]
    omega
theorem kids_nodup (b : Br) (n : Nat) : (kidsOf b n).Nodup := by
  unfold kidsOf
  cases b.all[n]? with
  | none => exact List.nodup_nil
  | some e => exact (offs_sorted _ _).imp (fun h => Nat.ne_of_lt h)

set_option maxHeartbeats 8000000 in
theorem treeAll_any (b : Br) (w : World) (hl : b.Lies w) (hfit : b.Fits) : Calls Try.prog 6 #[b.h.val] w fun e w' => e = .returned (.bool true) ∧ Below w.heap.size w w' := by
  obtain ⟨w0, e0, c0, l0, b0, s0⟩ := boxed w b hl
  have HQ : Hid (∀ w1 w2 : World, Below w1.heap.size w1 w2 → b.Lies w1 → b.Lies w2) := Lib.hid fun w1 w2 h h' => h'.step _ h
  have HBX : Hid (∀ w1, Below w0.heap.size w0 w1 → (w1.cell? ⟨w.heap.size, 0, none⟩ = some (.int .i64 b.h.k) ∧ w1.cell? ⟨w.heap.size, 1, none⟩ = some (.int .i64 b.h.m) ∧ w1.cell? ⟨w.heap.size, 2, none⟩ = some (.int .i64 b.h.f) ∧ w1.cell? ⟨w.heap.size, 3, none⟩ = some (.int .i64 b.h.t) ∧ w1.cell? ⟨w.heap.size, 4, none⟩ = some (.slice b.h.np b.h.nn b.h.nc) ∧ w1.cell? ⟨w.heap.size, 5, none⟩ = some (.slice b.h.kp b.h.kn b.h.kc))) := Lib.hid fun w1 hb => (c0.step (by omega) hb).box
  have HSZ := Lib.hid (fun W hW => size_any b 500 W hW (by omega))
  have L0 := Lib.hid l0
  have B0 := Lib.hid b0
  have S0 := Lib.hid s0
  clear c0 l0 b0 s0 hl
  obtain ⟨z, hz⟩ : ∃ z : Nat, z = min b.size (500 + 1) := ⟨_, rfl⟩
  rw [← hz] at HSZ
  have HZ := Lib.hid hz
  have hzl : z ≤ 501 := by omega
  clear hz
  by_cases hbig : 500 < z
  · generalize b.h = h at *
    go_enter Try.func6, Try.ntmps6
    go_wp2_with fail
    rw [← e0]
    refine (HSZ.out w0 L0.out).mono ?_
    rintro e w1 ⟨rfl, hb1⟩
    have HB1 := Lib.hid (B0.out.trans (hb1.mono B0.out.size))
    clear hb1 e0
    have HX := Lib.hid (alive_any w1)
    go_wp2_with fail
    refine HX.out.mono ?_
    rintro e w2 ⟨rfl, hb2⟩
    have HB2 := Lib.hid (HB1.out.trans (hb2.mono HB1.out.size))
    clear hb2
    go_wp2_with fail
    go_ret
    exact ⟨rfl, HB2.out⟩
  · have hN : z = b.size := by have := HZ.out; omega
    subst hN
    have HM := Lib.hid (fun W hW => make_any b W hW hfit (by omega))
    have HK := Lib.hid (levels_of b 0 (by omega))
    have hlen : b.knots.length = b.size := knots_length b
    generalize hh : b.h = h at *
    go_enter Try.func6, Try.ntmps6
    go_wp2_with fail
    rw [← e0]
    refine (HSZ.out w0 L0.out).mono ?_
    rintro e w1 ⟨rfl, hb1⟩
    have HB1 := Lib.hid hb1
    obtain ⟨q0, q1, q2, q3, q4, q5⟩ := HBX.out w1 hb1
    have HX := Lib.hid (HM.out w1 (HQ.out _ _ hb1 L0.out))
    clear hb1 e0
    go_wp2_with fail
    refine HX.out.mono ?_
    rintro e w2 ⟨T, g, c, rfl, ha2, hb2⟩
    have HA2 := Lib.hid ha2
    have HB2 := Lib.hid (HB1.out.trans (hb2.mono HB1.out.size))
    have HX := Lib.hid (len_any w2 ha2)
    rw [hlen] at HX
    clear ha2 hb2 q0 q1 q2 q3 q4 q5
    go_wp2_with fail
    refine HX.out.mono ?_
    rintro e u ⟨rfl, rfl⟩
    have hzs : SeenAt (w2.alloc (.cells (Array.replicate b.size (Value.int .i64 0)) 3)) w2.heap.size b.size (cnt b 0 []) := by
      refine ⟨_, heap_alloc_new w2 _, fun k hk => ?_⟩
      rw [cnt_zero]
      simp [hk]
    have hbz : Below w2.heap.size w2 (w2.alloc (.cells (Array.replicate b.size (Value.int .i64 0)) 3)) := (Below.refl _ _).alloc (Nat.le_refl _) _
    have HZS := Lib.hid hzs
    have HBZ := Lib.hid hbz
    have hsz3 : (w2.alloc (.cells (Array.replicate b.size (Value.int .i64 0)) 3)).heap.size = w2.heap.size + 1 := by simp
    obtain ⟨i0, hi0, hy0, hy1, hy2⟩ := info_parts info3
    obtain ⟨N, hN⟩ : ∃ N, N = b.size := ⟨_, rfl⟩
    rw [← hN] at HX HZS HBZ hlen hsz3 hzl hbig ⊢
    have HNN := Lib.hid hN
    have hNb : N ≤ 500 := by omega
    clear hzs hbz hN HX HZ HM
    go_wp2_with (refine wpList_make_room w2 rfl _ _ 22 rfl 3 i0 .i64 0 Try.underlying22 hi0 hy0 hy1 .i64 .i64 _ _ N N rfl rfl rfl rfl (Nat.le_refl _) (by rw [hy2]; omega) (by omega) ?_)
    generalize w2.alloc (.cells (Array.replicate N (Value.int .i64 0)) 3) = w3 at *
    go_loopw [26] (fun iv wr => ∃ n : Nat, n ≤ N ∧ iv = .int .i64 n ∧ SeenAt wr w2.heap.size N (cnt b n []) ∧ w2.heap.size < wr.heap.size ∧ Below w2.heap.size w2 wr) (fun iv _ => N - (intOf iv).toNat)
    case atStart => exact ⟨0, by omega, rfl, HZS.out, by omega, HBZ.out⟩
    case round =>
      obtain ⟨n, hn, rfl, hseen, hgs, hbe⟩ := hrel
      have HS := Lib.hid hseen
      have HBE := Lib.hid hbe
      by_cases hlt : n < N
      · have hch := HK.out.chain n (by rw [hlen]; exact hlt)
        have HX := Lib.hid (kids_yes n wr (HA2.out.step hbe) (by rw [hlen]; exact hlt) (kidsOf b n) hch.1 hch.2)
        have hkl := hch.2
        clear hseen hbe hch
        go_wp2_with fail
        refine HX.out.mono ?_
        rintro e w4 ⟨v4, rfl, hown4, hb4⟩
        have hz4 := hb4.size
        obtain ⟨p4, c4, rfl⟩ := ownN_form hown4
        have hrow : ∀ i (hi : i < (kidsOf b n).length), ∃ gv, p4 = some ⟨gv, 0, none⟩ ∧ gv ≠ w2.heap.size ∧ gv < w4.heap.size ∧ w4.cell? ⟨gv, i, none⟩ = some (mkN (kidsOf b n)[i]) := fun i hi => by
          obtain ⟨gv, cv, hv, hge, hlt', _⟩ := own_pos hown4 (by omega)
          have hp : p4 = some ⟨gv, 0, none⟩ := by injection hv
          subst hp
          exact ⟨gv, rfl, by omega, hlt', own_cell hown4 i _ (by simp [hi])⟩
        have HS4 := Lib.hid (HS.out.kept (hb4.block _ hgs))
        have HROW := Lib.hid hrow
        have HB4 := Lib.hid (HBE.out.trans (hb4.mono (by omega)))
        have hgs4 : w2.heap.size < w4.heap.size := by omega
        have HKID : Hid (∀ k ∈ kidsOf b n, ∃ e', b.all[k]? = some e' ∧ e'.up = (n : Int) ∧ n < k ∧ k < N) := Lib.hid fun k hk => by
          obtain ⟨en, hen⟩ := all_some (show n < b.size by rw [← HNN.out]; exact hlt)
          rw [kidsOf_at hen] at hk
          obtain ⟨e', h1, h2, _, _, h3, _⟩ := kid_of hen k hk
          exact ⟨e', h1, h2, h3, by rw [HNN.out]; exact some_lt h1⟩
        have HND := Lib.hid (kids_nodup b n)
        have HNX : Hid (∀ k, k < N → cnt b n (kidsOf b n) k = cnt b (n + 1) [] k) := Lib.hid fun k hk => cnt_next b n (by rw [← HNN.out]; exact hlt) k (by rw [← HNN.out]; exact hk)
        clear hown4 hb4 hrow HX
        generalize kidsOf b n = K at *
        go_wp2_with fail
        go_loopw [33] (fun iv wr => ∃ j : Nat, j ≤ K.length ∧ iv = .int .i64 j ∧ SeenAt wr w2.heap.size N (cnt b n (K.take j)) ∧ w2.heap.size < wr.heap.size ∧ Below w2.heap.size w2 wr ∧ (∀ i (hi : i < K.length), ∃ gv, p4 = some ⟨gv, 0, none⟩ ∧ gv ≠ w2.heap.size ∧ gv < wr.heap.size ∧ wr.cell? ⟨gv, i, none⟩ = some (mkN K[i]))) (fun iv _ => K.length - (intOf iv).toNat)
        case atStart => exact ⟨0, by omega, rfl, HS4.out, hgs4, HB4.out, HROW.out⟩
        case round =>
          obtain ⟨j, hj, rfl, hseen5, hgs5, hbe5, hrow5⟩ := hrel
          by_cases hlt5 : j < K.length
          · obtain ⟨gv, rfl, hgv, hgv2, c0⟩ := hrow5 j hlt5
            obtain ⟨e', he', hup, hnk, hkN⟩ := HKID.out K[j] (List.getElem_mem hlt5)
            have hkk : K[j] < b.knots.length := by rw [hlen]; exact hkN
            have HX := Lib.hid (knot_yes K[j] wr (HA2.out.step hbe5) hkk)
            have hkup : b.knots[K[j]].up = (n : Int) := by rw [knots_get he']; exact hup
            rw [hkup] at HX
            obtain ⟨d0, df⟩ := hseen5.cell hkN
            have hnm : K[j] ∉ K.take j := fun hm => by
              obtain ⟨i, hi, hie⟩ := List.getElem_of_mem hm
              have hij : i < j := by simp at hi; omega
              have := List.pairwise_iff_getElem.1 HND.out i j (by omega) hlt5 hij
              exact this (by simpa using hie)
            have HCN : Hid (∀ k, cnt b n (K.take (j + 1)) k = bif k == K[j] then cnt b n (K.take j) K[j] + 1 else cnt b n (K.take j) k) := Lib.hid fun k => by
              rw [List.take_succ_eq_append_getElem hlt5]
              exact cnt_kid b n _ _ (by rw [parent_at he']; exact hup) hnm k
            have hcb : 0 ≤ cnt b n (K.take j) K[j] ∧ cnt b n (K.take j) K[j] ≤ 1 := by
              unfold cnt
              cases (decide (0 ≤ parent b K[j]) && (decide (parent b K[j] < n) || (decide (parent b K[j] = n) && (K.take j).contains K[j]))) <;> simp
            have hcw : IntKind.i64.wrap (cnt b n (K.take j) K[j] + 1) = cnt b n (K.take j) K[j] + 1 := IntWalk.i64_in _ (by omega)
            have hr1 : (0 : Int) ≤ ((K[j] : Nat) : Int) := by omega
            have hr2 : ((K[j] : Nat) : Int) < (N : Int) := by omega
            have hr3 : ¬ ((K[j] : Nat) : Int) ≤ (n : Int) := by omega
            have hr4 : ¬ (N : Int) ≤ ((K[j] : Nat) : Int) := by omega
            have HS5 := Lib.hid hseen5
            have HB5 := Lib.hid hbe5
            have HR5 := Lib.hid hrow5
            generalize b.knots[K[j]] = kn at *
            clear hseen5 hbe5 hrow5 he' hup hkup hnm hcb hkk
            generalize cnt b n (K.take j) K[j] = cv at *
            generalize K[j] = k at *
            go_wp2_with fail
            refine HX.out.mono ?_
            rintro e w6 ⟨rfl, hb6⟩
            have hz6 := hb6.size
            have d1 := (hb6.cell (p := ⟨w2.heap.size, _, none⟩) hgs5).trans d0
            have df1 := (hb6.frozen (p := ⟨w2.heap.size, _, none⟩) hgs5).trans df
            have hb7 : Below wr.heap.size wr (w6.alloc (.cells #[.int .i64 kn.k, .int .i64 kn.m, .int .i64 kn.f, .int .i64 kn.t, .int .i64 n, .int .i64 kn.first, .int .i64 kn.next] 34)) := hb6.alloc hz6 _
            have HB7 := Lib.hid hb7
            have HB6 := Lib.hid hb6
            have hne6 : w2.heap.size ≠ w6.heap.size := by omega
            clear hb6 hb7 HX
            have hgs6 : w2.heap.size < w6.heap.size := by omega
            obtain ⟨W7, hW7⟩ : ∃ W7, W7 = w6.alloc (.cells #[.int .i64 kn.k, .int .i64 kn.m, .int .i64 kn.f, .int .i64 kn.t, .int .i64 n, .int .i64 kn.first, .int .i64 kn.next] 34) := ⟨_, rfl⟩
            have HST : Hid (SeenAt ((w6.setCell ⟨w2.heap.size, k, none⟩ (.int .i64 (cv + 1))).alloc (.cells #[.int .i64 kn.k, .int .i64 kn.m, .int .i64 kn.f, .int .i64 kn.t, .int .i64 n, .int .i64 kn.first, .int .i64 kn.next] 34)) w2.heap.size N (cnt b n (K.take (j + 1)))) := Lib.hid ((((HS5.out.kept (HB6.out.block _ hgs5)).set hkN (cv + 1)).congr fun i _ => (HCN.out i).symm).kept (heap_alloc_old _ _ (by simp; omega)))
            have HBT : Hid (Below w2.heap.size w2 ((w6.setCell ⟨w2.heap.size, k, none⟩ (.int .i64 (cv + 1))).alloc (.cells #[.int .i64 kn.k, .int .i64 kn.m, .int .i64 kn.f, .int .i64 kn.t, .int .i64 n, .int .i64 kn.first, .int .i64 kn.next] 34))) := Lib.hid (((HB5.out.trans (HB6.out.mono (by omega))).setCell (Nat.le_refl _) _).alloc (by simp; omega) _)
            have HRT : Hid (∀ i (hi : i < K.length), ∃ gv', some (⟨gv, 0, none⟩ : Addr) = some ⟨gv', 0, none⟩ ∧ gv' ≠ w2.heap.size ∧ gv' < ((w6.setCell ⟨w2.heap.size, k, none⟩ (.int .i64 (cv + 1))).alloc (.cells #[.int .i64 kn.k, .int .i64 kn.m, .int .i64 kn.f, .int .i64 kn.t, .int .i64 n, .int .i64 kn.first, .int .i64 kn.next] 34)).heap.size ∧ ((w6.setCell ⟨w2.heap.size, k, none⟩ (.int .i64 (cv + 1))).alloc (.cells #[.int .i64 kn.k, .int .i64 kn.m, .int .i64 kn.f, .int .i64 kn.t, .int .i64 n, .int .i64 kn.first, .int .i64 kn.next] 34)).cell? ⟨gv', i, none⟩ = some (mkN K[i])) := Lib.hid fun i hi => by
              obtain ⟨gv', h1, h2, h3, h4⟩ := HR5.out i hi
              refine ⟨gv', h1, h2, by simp; omega, ?_⟩
              rw [World.cell?_of_block (w := w6.setCell ⟨w2.heap.size, k, none⟩ (.int .i64 (cv + 1))) (heap_alloc_old _ _ (by simp; omega)), World.cell?_setCell_other _ _ _ _ (fun e => h2 (by injection e with e1; exact e1.symm)), HB6.out.cell (p := ⟨gv', _, none⟩) h3]
              exact h4
            clear hW7
            go_wp2_with fail
            go_roundw
            case rel => exact ⟨j + 1, by omega, by go_num, HST.out, by simp; omega, HBT.out, HRT.out⟩
            case measure => simp [intOf]; omega
          · have hjl : j = K.length := by omega
            rw [List.take_of_length_le (by omega)] at hseen5
            have HS5 := Lib.hid (hseen5.congr HNX.out)
            have HB5 := Lib.hid hbe5
            clear hseen5 hbe5 hrow5
            go_wp2_with fail
            go_roundw
            case rel => exact ⟨n + 1, by omega, by go_num, HS5.out, hgs5, HB5.out⟩
            case measure => simp [intOf]; omega
      · have hnN : n = N := by omega
        subst hnN
        clear hseen hbe
        go_wp2_with fail
        go_loopw [72] (fun iv wr2 => wr = wr2 ∧ ∃ i : Nat, i ≤ n ∧ iv = .int .i64 i) (fun iv _ => n - (intOf iv).toNat)
        case atStart => exact ⟨rfl, 0, by omega, rfl⟩
        case round =>
          obtain ⟨rfl, i, hi, rfl⟩ := hrel
          by_cases hlt : i < n
          · obtain ⟨d0, _⟩ := HS.out.cell hlt
            have hca := cnt_all b i (by rw [← HNN.out]; exact hlt)
            rw [← HNN.out] at hca
            rw [hca] at d0
            have hr1 : (0 : Int) ≤ (i : Int) := by omega
            have hr2 : (i : Int) < (n : Int) := by omega
            clear hca
            generalize hmm : min (i : Int) 1 = mv at *
            go_wp2_with fail
            go_roundw
            case rel => exact ⟨by first | trivial | rfl, i + 1, by omega, by go_num⟩
            case measure => simp [intOf]; omega
          · have hp := b.size_pos
            have h00 : b.all[0]? = some ⟨b, -1, 1, -1, 0, b.size⟩ := by
              show (b.flat (-1) 1 (-1) b.size 0)[0]? = _
              rw [flat_eq]; rfl
            have hwalk := walk_yes 0 (0 + b.size) wr (HA2.out.step HBE.out) (by rw [hlen]; have := HNN.out; omega) (by have := HNN.out; omega) _ (walks_of h00 (by have := HNN.out; omega))
            simp only [Nat.zero_add, Nat.sub_zero] at hwalk
            rw [← HNN.out] at hwalk
            have HX := Lib.hid hwalk
            have hnp : 0 < n := by rw [HNN.out]; exact hp
            clear hwalk h00 hp
            go_wp2_with fail
            refine HX.out.mono ?_
            rintro e w9 ⟨v9, rfl, hown9, hb9⟩
            have hl9 : (List.range' 0 n).length = n := List.length_range'
            obtain ⟨g9, c9, rfl, hg9, hg9b, hc9, _⟩ := own_pos hown9 (by rw [hl9]; exact hnp)
            rw [hl9] at hc9
            have HO9 := Lib.hid hown9
            have HB9 := Lib.hid (HBE.out.trans (hb9.mono (by omega)))
            have HSZ2 : Hid (∀ W, b.Lies W → Calls Try.prog 29 #[h.val, .int .i64 500] W fun e w' => e = .returned (.int .i64 (n : Int)) ∧ Below W.heap.size W w') := Lib.hid fun W hW => by
              have := HSZ.out W hW
              rw [← HNN.out] at this
              exact this
            clear hown9 hb9 HX
            rw [hl9]
            go_wp2_with fail
            go_loopw [86] (fun iv wr2 => w9 = wr2 ∧ ∃ i : Nat, i ≤ n ∧ iv = .int .i64 i) (fun iv _ => n - (intOf iv).toNat)
            case atStart => exact ⟨rfl, 0, by omega, rfl⟩
            case round =>
              obtain ⟨rfl, i2, hi2, rfl⟩ := hrel
              by_cases hlt9 : i2 < n
              · have d0 : w9.cell? ⟨g9, i2, none⟩ = some (.int .i64 (i2 : Int)) := own_cell HO9.out i2 _ (by simp [hlt9])
                have hr1 : (0 : Int) ≤ (i2 : Int) := by omega
                have hr2 : (i2 : Int) < (n : Int) := by omega
                go_wp2_with fail
                go_roundw
                case rel => exact ⟨by first | trivial | rfl, i2 + 1, by omega, by go_num⟩
                case measure => simp [intOf]; omega
              · have HC0 := Lib.hid (HB2.out.trans (HB9.out.mono HB2.out.size))
                have HL9 := Lib.hid (HQ.out _ _ HC0.out L0.out)
                have HA9 := Lib.hid (HA2.out.step HB9.out)
                have q := HBX.out w9 HC0.out
                have HAL : Hid (∀ W, Calls Try.prog 9 #[] W fun e w' => e = .returned (.bool true) ∧ Below W.heap.size W w') := Lib.hid fun W => alive_any W
                have HLE : Hid (∀ W, Arena W T g c b.knots → Calls Try.prog 12 #[.pointer (some ⟨T, 0, none⟩)] W fun e w' => e = .returned (.int .i64 (n : Int)) ∧ W = w') := Lib.hid fun W hW => by
                  have := len_any W hW
                  rw [hlen] at this
                  exact this
                have HC : Hid (Below w0.heap.size w0 w9.drew) := Lib.hid HC0.out.drew
                have HLC : Hid (b.Lies w9.drew) := Lib.hid (HQ.out _ _ (Below.refl _ _).drew HL9.out)
                have HAM : Hid (Arena w9.drew T g c b.knots) := Lib.hid (HA9.out.step (Below.refl _ _).drew)
                clear HO9 HS HZS HBZ hlen hh hfit HK
                go_wp2_with fail
                go_region_held3 (fun w' => w'.cell? ⟨w.heap.size, 0, none⟩ = some (.int .i64 h.k) ∧ w'.cell? ⟨w.heap.size, 1, none⟩ = some (.int .i64 h.m) ∧ w'.cell? ⟨w.heap.size, 2, none⟩ = some (.int .i64 h.f) ∧ w'.cell? ⟨w.heap.size, 3, none⟩ = some (.int .i64 h.t) ∧ w'.cell? ⟨w.heap.size, 4, none⟩ = some (.slice h.np h.nn h.nc) ∧ w'.cell? ⟨w.heap.size, 5, none⟩ = some (.slice h.kp h.kn h.kc)) (first | exact q | exact qz | go_keep)
                  ((first
                    | (go_at_call 12; refine (HLE.out _ HAM.out).mono ?_; rintro e wz ⟨rfl, rfl⟩; have qz := HBX.out _ HC.out)
                    | (go_at_call 29; refine (HSZ2.out _ HLC.out).mono ?_; rintro e wz ⟨rfl, hbz⟩; have HC := Lib.hid (HC.out.trans (hbz.mono HC.out.size)); have HLC := Lib.hid (HQ.out _ _ hbz HLC.out); have HAM := Lib.hid (HAM.out.step hbz); have qz := HBX.out _ HC.out)
                    | (go_at_call 9; refine (HAL.out _).mono ?_; rintro e wz ⟨rfl, hbz⟩; have HC := Lib.hid (HC.out.trans (hbz.mono HC.out.size)); have qz := HBX.out _ HC.out)))
                all_goals
                  have HE := Lib.hid (B0.out.trans (HC.out.mono B0.out.size))
                  go_wp2_with fail
                  go_ret
                  exact ⟨by first | trivial | rfl, HE.out⟩
end Go.Proofs.Ytcijjeflojaocaa
