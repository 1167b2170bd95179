/-
  Back: of edits that are right, as many edits that put back what they took; else the error.
-/
import Derived.Test.YtficgilapbmmpaaSegs
import Derived.Test.YtficgilapbmmpaaPart
import Derived.Deep.RegionHeld3
import Derived.Deep.AppendLies
import Derived.Lib.IndexBytes
import Derived.Laws.OwnMore
import Derived.Lib.Builder
import Derived.IntWalk
namespace Go.Proofs.Ytficgilapbmmpaa
open Go.RowKit
set_option linter.unusedVariables false

theorem info55 : (Try.prog.info? 55).map (fun i => (i.zero, i.size, i.bytes)) = some (some (.agg #[.int .i64 0, .int .i64 0, .string ByteArray.empty]), 3, 32) := by kernel_rfl

/-- Edits as a row of cells. -/
def edCells : List Ed → List Value
  | [] => []
  | x :: r => .int .i64 x.a :: .int .i64 x.e :: .string x.t :: edCells r
theorem edCells_append (a b : List Ed) : edCells (a ++ b) = edCells a ++ edCells b := by
  induction a with
  | nil => rfl
  | cons x r ih => simp [edCells, ih]
theorem edCells_length (a : List Ed) : (edCells a).length = a.length * 3 := by
  induction a with
  | nil => rfl
  | cons x r ih => simp [edCells, ih]; omega
theorem edCells_at : ∀ (l : List Ed) (i : Nat) (h : i < l.length), (edCells l)[i * 3]? = some (.int .i64 l[i].a) ∧ (edCells l)[i * 3 + 1]? = some (.int .i64 l[i].e) ∧ (edCells l)[i * 3 + 2]? = some (.string l[i].t)
  | [], i, h => absurd h (by simp)
  | x :: r, 0, _ => ⟨rfl, rfl, rfl⟩
  | x :: r, i + 1, h => by
    have := edCells_at r i (by simpa using h)
    simp only [edCells, show (i + 1) * 3 = i * 3 + 1 + 1 + 1 from by omega, List.getElem?_cons_succ, List.getElem_cons_succ]
    exact this

theorem block_new (w : World) (o : Obj) : (w.alloc o).heap[w.heap.size]? = some o := heap_alloc_new w o

theorem ownsRow_below {w w1 : World} {base : Nat} {e : TypeId} {size : Nat} {v : Value} {n : Nat} {xs : List Value} (h : w.ownsRow base e size v n xs) (hb : Below w.heap.size w w1) : w1.ownsRow base e size v n xs := by
  refine ⟨h.1, ?_⟩
  rcases h.2 with h0 | ⟨g, cap, cur, hv, hg, hh, r⟩
  · exact .inl h0
  · refine .inr ⟨g, cap, cur, hv, hg, ?_, r⟩
    have hlt : g < w.heap.size := (Array.getElem?_eq_some_iff.1 hh).1
    rw [hb.block g hlt]; exact hh

theorem editsIn_of_row {w : World} {base : Nat} {p : Option Addr} {n cap : Nat} {l : List Ed} (h : w.ownsRow base 55 3 (.slice p n cap) l.length (edCells l)) : EditsIn w p n cap l := by
  rcases h.2 with ⟨h0, h1⟩ | ⟨g, c, cur, hv, hg, hh, hle, hm, hsz, ht⟩
  · simp only [Value.slice.injEq] at h0
    exact ⟨by omega, .inl (by omega)⟩
  · simp only [Value.slice.injEq] at hv
    obtain ⟨rfl, hn, rfl⟩ := hv
    subst hn
    have hlt : g < w.heap.size := (Array.getElem?_eq_some_iff.1 hh).1
    refine ⟨rfl, .inr ⟨g, 0, rfl, hle, hlt, fun i hi => ?_⟩⟩
    obtain ⟨e0, e1, e2⟩ := edCells_at l i hi
    have hc : ∀ j u, (edCells l)[j]? = some u → w.cell? ⟨g, j, none⟩ = some u := fun j u hj => by
      have := World.ownsRow.cells h (g := g) rfl j u hj
      rwa [show (⟨g, 0, none⟩ : Addr).add j = ⟨g, j, none⟩ from by unfold Addr.add; split <;> simp_all] at this
    simp only [Nat.zero_add]
    exact ⟨hc _ _ e0, hc _ _ e1, hc _ _ e2⟩

theorem back_bad (s : ByteArray) (p : Option Addr) (n cap : Nat) (l : List Ed) (w : World) (h : EditsIn w p n cap l) (hm : n ≤ 60) (hs : s.size ≤ 100000) (hbad : checkN s.size l ≠ 0) :
    Calls Try.prog 25 #[.string s, .slice p n cap] w fun e w' => e = .returned (.tuple #[.slice none 0 0, .int .i64 (checkN s.size l)]) ∧ Below w.heap.size w w' := by
  have hne : (checkN s.size l == 0) = false := by rw [beq_eq_false_iff_ne]; exact hbad
  have hne2 : (checkN s.size l != 0) = true := by rw [bne, hne]; rfl
  go_enter Try.func25, Try.ntmps25
  go_wp2_with (go_at_call 14; refine (check_any _ p n cap l _ h hm).mono ?_; rintro e w1 ⟨rfl, hb⟩)
  go_returns
  exact ⟨rfl, hb⟩

theorem swap_length (xs : List Seg) : (swap xs).length = xs.length := by simp [swap]
theorem swap_take (xs : List Seg) (k : Nat) : (swap xs).take k = swap (xs.take k) := by simp [swap, List.map_take]
theorem back_at (xs : List Seg) (k : Nat) (h : k < xs.length) : (edits 0 (swap xs)).take (k + 1) = (edits 0 (swap xs)).take k ++ [⟨((made (xs.take k)).length + xs[k].k.length : Nat), ((made (xs.take k)).length + xs[k].k.length + xs[k].i.length : Nat), ⟨xs[k].d.toArray⟩⟩] := by
  rw [List.take_succ_eq_append_getElem (by rw [edits_length, swap_length]; exact h), edits_at _ _ _ (by rw [swap_length]; exact h)]
  rw [swap_take, orig_swap]
  simp [swap]

/-- What a round of Back's loop begins with. -/
structure Backing (w wr : World) (v : Value) (k : Nat) (l : List Ed) : Prop where
  own : wr.ownsRow w.heap.size 55 3 v k (edCells (l.take k))
  below : Below w.heap.size w wr

theorem arr_bytes (s : ByteArray) (l : List UInt8) (h : s.data.toList = l) : s = ⟨l.toArray⟩ := by
  subst h; simp

theorem mid_extract (s : ByteArray) (A K D R : List UInt8) (h : s.data.toList = A ++ (K ++ (D ++ R))) : s.extract (0 + A.length + K.length) (0 + A.length + K.length + D.length) = ⟨D.toArray⟩ := by
  refine arr_bytes _ _ ?_
  rw [Lib.extract_data, h, ← List.append_assoc, show 0 + A.length + K.length = (A ++ K).length from by simp, List.drop_left, show (A ++ K).length + D.length - (A ++ K).length = D.length from by omega, List.take_left]

set_option maxHeartbeats 2000000 in
theorem back_some (xs : List Seg) (last : List UInt8) (s : ByteArray) (hs : s.data.toList = orig xs ++ last) (hgap : Gap 0 xs) (hsz : s.size ≤ 100000) (hby : (made xs).length ≤ 200000) (hby2 : ∀ i, (h : i < xs.length) → (made (xs.take i)).length + xs[i].k.length + xs[i].i.length ≤ 200000)
    (b off cap : Nat) (w : World) (hat : EditsAt w b off (edits 0 xs)) (hb : b < w.heap.size) (hcap : xs.length ≤ cap) (hm : xs.length ≤ 60) (hl : 0 < xs.length) :
    Calls Try.prog 25 #[.string s, .slice (some ⟨b, off, none⟩) xs.length cap] w fun e w' => ∃ p c, e = .returned (.tuple #[.slice p xs.length c, .int .i64 0]) ∧ Below w.heap.size w w' ∧ EditsIn w' p xs.length c (edits 0 (swap xs)) := by
  have hlen : s.size = (orig xs ++ last).length := by rw [← hs, Array.length_toList]; rfl
  have hck : checkN (s.size : Int) (edits 0 xs) = 0 := by rw [hlen]; exact check_edits hgap
  have hin : EditsIn w (some ⟨b, off, none⟩) xs.length cap (edits 0 xs) := ⟨(edits_length xs 0).symm, .inr ⟨b, off, rfl, hcap, hb, hat⟩⟩
  have H := Lib.hid hat
  have HS := Lib.hid hs
  have HY := Lib.hid hby2
  have HL := Lib.hid hlen
  have HC : Calls Try.prog 14 #[.int .i64 s.size, .slice (some ⟨b, off, none⟩) xs.length cap] w fun e w' => e = .returned (.int .i64 0) ∧ Below w.heap.size w w' := by
    refine (check_any (s.size : Int) (some ⟨b, off, none⟩) xs.length cap (edits 0 xs) w hin hm).mono ?_
    rintro e w' ⟨rfl, hb⟩
    exact ⟨ret_int hck, hb⟩
  clear hat hs hby2 hlen hck hin
  obtain ⟨i0, hi0, hy0, hy1, hy2⟩ := info_parts info55
  go_enter Try.func25, Try.ntmps25
  go_wp2_with (go_at_call 14; refine HC.mono ?_; rintro e w1 ⟨rfl, hb1⟩)
  clear HC
  go_loopw [7, 8, 21] (fun v a i wr => ∃ k : Nat, k ≤ xs.length ∧ i = .int .i64 k ∧ a = .int .i64 ((made (xs.take k)).length - (orig (xs.take k)).length) ∧ Backing w1 wr v k (edits 0 (swap xs))) (fun _ _ i _ => xs.length - (intOf i).toNat)
  case atStart => exact ⟨0, by omega, rfl, rfl, World.ownsRow_nil _ _ _ _, Below.refl _ _⟩
  case round =>
    obtain ⟨k, hk, rfl, rfl, hbu⟩ := hrel
    obtain ⟨hown, hbe⟩ := hbu
    have hz1 := hb1.size
    have hz2 := hbe.size
    by_cases hlt : k < xs.length
    · have hcells := H.out k (by rw [edits_length]; exact hlt)
      rw [edits_at xs 0 k hlt] at hcells
      obtain ⟨e0, e1, e2⟩ := hcells
      have g0 := (hbe.cell (p := ⟨b, off + k * 3, none⟩) (Nat.lt_of_lt_of_le hb hz1)).trans ((hb1.cell (p := ⟨b, off + k * 3, none⟩) hb).trans e0)
      have g1 := (hbe.cell (p := ⟨b, off + k * 3 + 1, none⟩) (Nat.lt_of_lt_of_le hb hz1)).trans ((hb1.cell (p := ⟨b, off + k * 3 + 1, none⟩) hb).trans e1)
      have g2 := (hbe.cell (p := ⟨b, off + k * 3 + 2, none⟩) (Nat.lt_of_lt_of_le hb hz1)).trans ((hb1.cell (p := ⟨b, off + k * 3 + 2, none⟩) hb).trans e2)
      clear e0 e1 e2
      have hbyk := HY.out k hlt
      have hso : s.data.toList = orig (xs.take k) ++ (xs[k].k ++ (xs[k].d ++ orig (xs.drop (k + 1)))) ++ last := by rw [HS.out, ← orig_split xs k hlt]
      have hos : (orig (xs.take (k + 1))).length = 0 + (orig (xs.take k)).length + xs[k].k.length + xs[k].d.length := by rw [orig_take_succ xs k hlt]; simp; omega
      have hms : (made (xs.take (k + 1))).length = (made (xs.take k)).length + xs[k].k.length + xs[k].i.length := by rw [made_take_succ xs k hlt]; simp; omega
      have hle : 0 + (orig (xs.take k)).length + xs[k].k.length + xs[k].d.length ≤ s.size := by
        rw [HL.out, orig_split xs k hlt]; simp; omega
      have hex := mid_extract s (orig (xs.take k)) xs[k].k xs[k].d (orig (xs.drop (k + 1)) ++ last) (by rw [hso]; simp)
      have hba := back_at xs k hlt
      have HEX := Lib.hid hex
      have HOS := Lib.hid hos
      have HMS := Lib.hid hms
      have HBA := Lib.hid hba
      clear hos hms hso hex hba
      have hMk : (made (xs.take k)).length ≤ 200000 := by omega
      have hti : (⟨xs[k].i.toArray⟩ : ByteArray).size = xs[k].i.length := by show xs[k].i.toArray.size = _; simp
      have HTI := Lib.hid hti
      have hts : (⟨xs[k].i.toArray⟩ : ByteArray).size ≤ 200000 := by omega
      clear hti hbyk
      generalize hA : (orig (xs.take k)).length = A at *
      generalize hP : 0 + A + xs[k].k.length = P at *
      generalize hE : P + xs[k].d.length = E at *
      generalize hM : (made (xs.take k)).length = M at *
      generalize (⟨xs[k].i.toArray⟩ : ByteArray) = t at *
      generalize (⟨xs[k].d.toArray⟩ : ByteArray) = dd at *
      have hAP : A ≤ P := by omega
      have hPE : P ≤ E := by omega
      have hPs : P ≤ s.size := by omega
      have HP := Lib.hid hP
      have HE := Lib.hid hE
      clear hA hP hE hM
      go_wp2_with fail
      have hX0 : 0 ≤ (P : Int) + (M - A) := by omega
      have hX1 : (P : Int) + (M - A) ≤ 400000 := by omega
      have hX2 : (P : Int) + (M - A) = ((M + xs[k].k.length : Nat) : Int) := by have := HP.out; omega
      have HX := Lib.hid hX2
      clear hX2
      generalize (P : Int) + (M - A) = X at *
      generalize hW : wr.alloc (.cells #[.int .i64 P, .int .i64 E, .string t] 55) = wa at *
      have ka := block_new wr (.cells #[.int .i64 P, .int .i64 E, .string t] 55)
      have hown2 := hown.alloc (.cells #[.int .i64 P, .int .i64 E, .string t] 55)
      have hbe2 := hbe.alloc hz2 (.cells #[.int .i64 P, .int .i64 E, .string t] 55)
      have hsa : wa.heap.size = wr.heap.size + 1 := by rw [← hW]; simp
      rw [hW] at ka hown2 hbe2
      have a0 : wa.cell? ⟨wr.heap.size, 0, none⟩ = some (.int .i64 P) := by rw [Lib.cell_of_heap ka]; rfl
      have a1 : wa.cell? ⟨wr.heap.size, 1, none⟩ = some (.int .i64 E) := by rw [Lib.cell_of_heap ka]; rfl
      have a2 : wa.cell? ⟨wr.heap.size, 2, none⟩ = some (.string t) := by rw [Lib.cell_of_heap ka]; rfl
      have HSA := Lib.hid hsa
      have HKA := Lib.hid ka
      have hfar : u7.ownBlock ≠ some wr.heap.size := fun e => by have := (hown.lt _ e).2; omega
      clear ka hW g0 g1 g2 hsa
      go_region_held3 (fun w' => w'.cell? ⟨wr.heap.size, 0, none⟩ = some (.int .i64 P) ∧ w'.cell? ⟨wr.heap.size, 1, none⟩ = some (.int .i64 E) ∧ w'.cell? ⟨wr.heap.size, 2, none⟩ = some (.string t))
        (first
          | go_keep
          | (go_split_ands
             refine ⟨?_, ?_, ?_⟩
             · (first | (rw [hgrow.cell_far _ (by have := HSA.out; have := hbp.size; simp at *; omega) (Ne.symm hfar)]; assumption) | (rw [hbp.cell (by have := HSA.out; simp; omega)]; assumption))
             · (first | (rw [hgrow.cell_far _ (by have := HSA.out; have := hbp.size; simp at *; omega) (Ne.symm hfar)]; assumption) | (rw [hbp.cell (by have := HSA.out; simp; omega)]; assumption))
             · (first | (rw [hgrow.cell_far _ (by have := HSA.out; have := hbp.size; simp at *; omega) (Ne.symm hfar)]; assumption) | (rw [hbp.cell (by have := HSA.out; simp; omega)]; assumption))))
        ((first
          | (go_at_call 39; refine (part_yes s P E (by omega) hPE hle _).mono ?_; rintro e wp ⟨rfl, hbp⟩)
          | (refine step_append_lies _ (by rfl) _ _ _ (by rfl) w1.heap.size 55 i0 _ 3 32 Try.underlying22 hi0 hy0 hy1 hy2 rfl (by omega) _ k _ (by rfl) ((ownsRow_below hown2.drew hbp).alloc _) ⟨wp.heap.size, 0, none⟩ 1 1 [.int .i64 X, .int .i64 (IntKind.i64.wrap (X + (t.size : Int))), .string (s.extract P E)] (by rfl) (by rfl) (World.news_of_block (cs := #[.int .i64 X, .int .i64 (IntKind.i64.wrap (X + (t.size : Int))), .string (s.extract P E)]) (t := 55) (fr := (0, 0)) (heap_alloc_new _ _)) (by simp [Value.oneCell']) (by omega) (by unfold maxLen; omega) (by omega) (by have := HSA.out; have := hbp.size; simp at *; omega) (wp.heap.size + 1) (by simp) ?_; intro gg cc w5 hown5 hgrow hat hlt)))
      have hbp0 := hbp.size
      have hsa := HSA.out
      have hdd : wa.drew.heap.size = wa.heap.size := rfl
      have hge : w5.heap.size ≥ wp.heap.size := by have := hgrow.size; simp at this; omega
      have hk5 : w5.heap[wr.heap.size]? = some (.cells #[.int .i64 P, .int .i64 E, .string t] 55 (0, 0)) := by
        rw [hgrow.block wr.heap.size (by simp; omega) (Ne.symm hfar), heap_alloc_old _ _ (by omega), hbp.block wr.heap.size (by omega)]
        exact HKA.out
      have hbe5 : Below w1.heap.size w1 w5 := by
        have h1 : Below w1.heap.size w1 wp := (hbe2.drew).trans (hbp.mono (by omega))
        exact (h1.alloc (by omega) _).grown hgrow (by simp; omega) (fun g hg => (hown2.lt g hg).1)
      clear a0 a1 a2
      have a0 : w5.cell? ⟨wr.heap.size, 0, none⟩ = some (.int .i64 P) := by rw [Lib.cell_of_heap hk5]; rfl
      have a1 : w5.cell? ⟨wr.heap.size, 1, none⟩ = some (.int .i64 E) := by rw [Lib.cell_of_heap hk5]; rfl
      have a2 : w5.cell? ⟨wr.heap.size, 2, none⟩ = some (.string t) := by rw [Lib.cell_of_heap hk5]; rfl
      have hfin : w5.ownsRow w1.heap.size 55 3 (.slice (some ⟨gg, 0, none⟩) (k + 1) cc) (k + 1) (edCells ((edits 0 (swap xs)).take (k + 1))) := by
        rw [HBA.out, edCells_append]
        have e1 : IntKind.i64.wrap (X + (t.size : Int)) = X + t.size := IntWalk.i64_in _ (by omega)
        rw [e1] at hown5
        have e2 : [Value.int .i64 X, .int .i64 (X + (t.size : Int)), .string (s.extract P E)] = edCells [⟨((M + xs[k].k.length : Nat) : Int), ((M + xs[k].k.length + xs[k].i.length : Nat) : Int), dd⟩] := by
          have := HX.out
          have h2 := HTI.out
          simp only [edCells]
          rw [HEX.out, this, h2]
          congr 2
        rw [e2] at hown5
        exact hown5
      have HFIN := Lib.hid hfin
      have HBE := Lib.hid hbe5
      have HGE := Lib.hid hge
      clear hfin hbe5 hk5 hown5 hgrow hat hsa hdd hge hbp hown hown2 hbp0
      go_wp2_with fail
      refine (grown_any P E t (by omega) (by omega) (by omega) (by omega) _).mono ?_
      rintro e w6 ⟨rfl, hb6⟩
      go_wp2
      go_roundw
      case rel =>
        refine ⟨k + 1, by omega, by go_num, ?_, ownsRow_below HFIN.out hb6, HBE.out.trans (hb6.mono (HBE.out.size))⟩
        have h1 := HOS.out
        have h2 := HMS.out
        have h3 := HTI.out
        have h4 := HP.out
        rw [h1, h2]
        congr 1
        omega
      case measure => simp [intOf]; omega
    · have hkk : k = xs.length := by omega
      have hfin : ∃ pp cc, u7 = .slice pp xs.length cc ∧ EditsIn wr pp xs.length cc (edits 0 (swap xs)) := by
        rw [hkk, List.take_of_length_le (by rw [edits_length, swap_length]; omega)] at hown
        rcases hown.2 with ⟨_, h0⟩ | ⟨g, c, cur, hv, _⟩
        · omega
        · refine ⟨some ⟨g, 0, none⟩, c, hv, ?_⟩
          have hll : (edits 0 (swap xs)).length = xs.length := by rw [edits_length, swap_length]
          rw [hv] at hown
          have := editsIn_of_row (w := wr) (base := w1.heap.size) (p := some ⟨g, 0, none⟩) (n := xs.length) (cap := c) (l := edits 0 (swap xs)) (by rw [hll]; exact hown)
          exact this
      obtain ⟨pp, cc, rfl, hfin⟩ := hfin
      have HFIN := Lib.hid hfin
      clear hfin hown
      go_wp2
      go_returns
      exact ⟨pp, cc, rfl, hb1.trans (hbe.mono hz1), HFIN.out⟩

theorem back_nil (s : ByteArray) (p : Option Addr) (cap : Nat) (w : World) (hsz : s.size ≤ 100000) :
    Calls Try.prog 25 #[.string s, .slice p 0 cap] w fun e w' => e = .returned (.tuple #[.slice none 0 0, .int .i64 0]) ∧ Below w.heap.size w w' := by
  have hck : checkN (s.size : Int) [] = 0 := checkN_ok (by omega) (fun i hi => absurd hi (by simp)) (fun i hi => absurd hi (by simp))
  have HC : Calls Try.prog 14 #[.int .i64 s.size, .slice p 0 cap] w fun e w' => e = .returned (.int .i64 0) ∧ Below w.heap.size w w' := by
    refine (check_any (s.size : Int) p 0 cap [] w ⟨rfl, .inl rfl⟩ (by omega)).mono ?_
    rintro e w' ⟨rfl, hb⟩
    exact ⟨ret_int hck, hb⟩
  clear hck
  go_enter Try.func25, Try.ntmps25
  go_wp2_with (go_at_call 14; refine HC.mono ?_; rintro e w1 ⟨rfl, hb1⟩)
  refine wp_loop_rounds 1 ?_
  rw [rounds_succ]
  go_wp2
  go_returns
  exact ⟨rfl, hb1⟩

theorem back_ok (xs : List Seg) (last : List UInt8) (s : ByteArray) (hs : s.data.toList = orig xs ++ last) (hgap : Gap 0 xs) (hsz : s.size ≤ 100000) (hi : ins xs ≤ 100000)
    (p : Option Addr) (n cap : Nat) (w : World) (h : EditsIn w p n cap (edits 0 xs)) (hm : n ≤ 60) :
    Calls Try.prog 25 #[.string s, .slice p n cap] w fun e w' => ∃ q c, e = .returned (.tuple #[.slice q xs.length c, .int .i64 0]) ∧ Below w.heap.size w w' ∧ EditsIn w' q xs.length c (edits 0 (swap xs)) := by
  obtain ⟨hn, hr⟩ := h
  rw [edits_length] at hn
  have ho : (orig xs).length ≤ s.size := by
    have : s.data.toList.length = s.size := by rw [Array.length_toList]; rfl
    rw [hs] at this; simp at this; omega
  by_cases h0 : xs.length = 0
  · have : xs = [] := List.length_eq_zero_iff.1 h0
    subst this
    subst hn
    refine (back_nil s p cap w hsz).mono ?_
    rintro e w' ⟨rfl, hb⟩
    exact ⟨none, 0, rfl, hb, rfl, .inl rfl⟩
  · rcases hr with h0' | ⟨b, off, rfl, hc, hb, hat⟩
    · omega
    · subst hn
      have hml := made_length xs
      exact back_some xs last s hs hgap hsz (by unfold ins at hi; omega) (fun i h => by have := ins_take xs i h; omega) b off cap w hat hb hc hm (by omega)
end Go.Proofs.Ytficgilapbmmpaa
