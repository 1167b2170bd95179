/-
  The walk of PackSets. (The main walk was laid by a program, call by call: wip/tools/packsets.py. Each part is an auxiliary lemma: else the kernel runs out of memory.)
-/
import Derived.Test.YtlfnefgcndhomaaHas
import Derived.Test.YtlfnefgcndhomaaRising
import Derived.Test.YtlfnefgcndhomaaAlive
namespace Go.Proofs.Ytlfnefgcndhomaa
open Go.RowKit
set_option linter.unusedVariables false

/-- What a round of the statement's own loops knows. -/
def FRel (T : List Int) (f : Int → Bool) (n : Nat) (W : World) (v i : Value) (wr : World) : Prop :=
  ∃ k : Nat, k ≤ n ∧ i = .int .i64 (k : Int) ∧ OwnI wr W.heap.size v ((T.take k).filter f) ∧ Below W.heap.size W wr
theorem FRel.start (T : List Int) (f : Int → Bool) (n : Nat) (W : World) : FRel T f n W (.slice none 0 0) (.int .i64 0) W :=
  ⟨0, by omega, rfl, World.ownsRow_nil _ _ _ _, Below.refl _ _⟩
theorem FRel.made (T : List Int) (f : Int → Bool) (n : Nat) (W : World) : FRel T f n W (.slice (some ⟨W.heap.size, 0, none⟩) 0 0) (.int .i64 0) (W.alloc (.cells #[] 3)) :=
  ⟨0, by omega, rfl, World.ownsRow_made W #[] 0 (Nat.le_refl _) (Nat.zero_le _) rfl, (Below.refl _ _).alloc (Nat.le_refl _) _⟩
theorem filt_len {T : List Int} {N : Nat} (h : T.length ≤ N) (j : Nat) (f : Int → Bool) : ((T.take j).filter f).length ≤ N :=
  Nat.le_trans (List.length_filter_le _ _) (Nat.le_trans (List.length_take_le' _ _) h)
theorem filt_length (s : Nat → Bool) (j : Nat) (f : Int → Bool) : (((lst s).take j).filter f).length ≤ 65536 := by
  have h := lst_length s
  generalize lst s = T at *
  exact filt_len h j f
theorem map_filter (R : List Nat) (s : Nat → Bool) (f : Int → Bool) : ((R.filter s).map Int.ofNat).filter f = (R.filter fun v => s v && f (v : Int)).map Int.ofNat := by
  rw [List.filter_map, List.filter_filter]
  congr 1
  refine List.filter_congr fun x _ => ?_
  show (f (Int.ofNat x) && s x) = (s x && f (x : Int))
  rw [Bool.and_comm]; rfl
theorem lst_filter (s : Nat → Bool) (f : Int → Bool) : (lst s).filter f = lst (fun v => s v && f (v : Int)) := map_filter _ s f
theorem in_lst (s : Nat → Bool) (v : Nat) (hv : v < 65536) : decide ((v : Int) ∈ lst s) = s v := by
  have h := mem_lst s (v : Int)
  have hm : mayB (v : Int) = true := by simp [mayB]; omega
  rw [hm, Int.toNat_natCast] at h
  cases hs : s v with
  | true => exact decide_eq_true (h.2 ⟨rfl, hs⟩)
  | false => exact decide_eq_false (fun g => by rw [(h.1 g).2] at hs; simp at hs)
theorem has_in (s : Nat → Bool) (x : Int) : decide (x ∈ lst s) = (mayB x && s x.toNat) := by
  have h := mem_lst s x
  cases hm : (mayB x && s x.toNat) with
  | true =>
    have h2 : mayB x = true ∧ s x.toNat = true := by simpa using hm
    exact decide_eq_true (h.2 h2)
  | false => exact decide_eq_false (fun g => by have := h.1 g; simp [this.1, this.2] at hm)
theorem in_app (s t : Nat → Bool) (v : Nat) (hv : v < 65536) : (s v || t v) = inS (lst s ++ lst t) v := by
  unfold inS
  have h1 := in_lst s v hv
  have h2 := in_lst t v hv
  rw [← h1, ← h2, Bool.eq_iff_iff]
  simp
theorem in_one (s : Nat → Bool) (x : Int) (v : Nat) (hv : v < 65536) : (s v || (mayB x && decide ((v : Int) = x))) = inS (lst s ++ [x]) v := by
  unfold inS
  have h1 := in_lst s v hv
  rw [← h1, Bool.eq_iff_iff]
  simp only [Bool.or_eq_true, Bool.and_eq_true, decide_eq_true_eq, List.mem_append, List.mem_singleton]
  constructor
  · rintro (h | ⟨-, h⟩)
    · exact .inl h
    · exact .inr h
  · rintro (h | h)
    · exact .inl h
    · exact .inr ⟨by subst h; simp [mayB]; omega, h⟩
theorem sIntsL (p q : Option Addr) (n c m d : Nat) (s t : Nat → Bool) (w : World) (h1 : LstIs w p n c s) (h2 : LstIs w q m d t) (hst : ∀ x, x < 65536 → s x = t x) :
    Calls Try.prog 24 #[.slice p n c, .slice q m d] w fun e w' => e = .returned (.bool true) ∧ Below w.heap.size w w' := by
  have e := lst_congr s t hst
  have h1' := h1.1
  have h2' := h2.1
  rw [e] at h1'
  refine (ints_any p q n m c d (lst t) (lst t) w h1' h2' (by have := h1.2; omega)).mono ?_
  rintro e w' ⟨rfl, hb⟩
  exact ⟨ret_bool (decide_eq_true rfl), hb⟩

theorem wpList_wanted {P : Program} {ops : Array Oper} {Q : Exit → Act → World → Prop} {a : Act} {w : World} {rest : List Oper} {o : Oper} (hg : Region.wanted o (yielded ops a.tmps) = true)
    (h : ∀ K : Act → World → Prop, (∀ a w, wpList P ops Q rest a w → K a w) → o.wp P a w K Q) : wpList P ops Q (o :: rest) a w :=
  wpList_step fun K hK => by rw [if_pos hg]; exact h K hK
theorem wpList_append_inW {P : Program} (w : World) {ops : Array Oper} {rest : List Oper} {o : Oper} {a : Act} {Q : Exit → Act → World → Prop} (hgd : Region.wanted o (yielded ops a.tmps) = true) (s x : Operand) (t : TypeId)
    (ho : o.op = .call { callee := .builtin .append, args := #[s, x], argTypes := #[t, t] })
    (base : Nat) (e : TypeId) (i : TypeInfo) (z : Value) (bytes : Nat) (ht : P.underlying t = some (.slice e)) (hi : P.info? e = some i) (hz : i.zero = some z)
    (hsize : i.size = 1) (hby : i.bytes = bytes) (hzs : z.cells.size = 1)
    (v : Value) (n : Nat) (xs : List Value) (hs : a.eval s = v) (hown : w.ownsRow base e 1 v n xs)
    {α : Type} (mk : α → Value) (hmk : ∀ x, (mk x).oneCell' = true) (p : Option Addr) (m c : Nat) (l : List α) (hx : a.eval x = .slice p m c) (hin : In mk w p m c l)
    (h63 : n + m ≤ maxLen) (hbytes : (n + m) * bytes ≤ 140737488355328) (hbase : base ≤ w.heap.size)
    (h : ∀ v' w', w'.ownsRow base e 1 v' (n + m) (xs ++ l.map mk) → w.grownBy w' v.ownBlock → wpList P ops Q rest (a.put o.dst v') w') : wpList P ops Q (o :: rest) a w := by
  obtain ⟨v', w', hr, h2, h3⟩ := run_append_in (P := P) w base t o.type e i z bytes ht hi hz hsize hby hzs v n xs hown mk hmk p m c l hin h63 hbytes hbase
  refine wpList_wanted hgd fun K hK => ?_
  unfold Oper.wp execOp
  simp only [ho, resolve, invoke, builtin, Sem.run_bind, Sem.run_pure, Result.andThen_ok, List.map_toArray, List.map_cons, List.map_nil, hs, hx, hr]
  exact hK _ _ (h v' w' h2 h3)
theorem wpList_append_ownW {P : Program} {w : World} {ops : Array Oper} {rest : List Oper} {o : Oper} {a : Act} {Q : Exit → Act → World → Prop} (hgd : Region.wanted o (yielded ops a.tmps) = true) (s x : Operand) (t : TypeId)
    (ho : o.op = .call { callee := .builtin .append, args := #[s, x], argTypes := #[t, t] })
    (base : Nat) (e : TypeId) (i : TypeInfo) (z : Value) (size bytes : Nat) (ht : P.underlying t = some (.slice e)) (hi : P.info? e = some i) (hz : i.zero = some z)
    (hsize : i.size = size) (hby : i.bytes = bytes) (hzs : z.cells.size = size) (hsz : 0 < size)
    (v : Value) (n : Nat) (xs : List Value) (hs : a.eval s = v) (hown : w.ownsRow base e size v n xs)
    (ad : Addr) (m c : Nat) (news : List Value) (hx : a.eval x = .slice (some ad) m c) (hl : news.length = m * size) (hnews : ∀ j u, news[j]? = some u → w.cell? (ad.add j) = some u) (h1 : ∀ u ∈ news, u.oneCell' = true)
    (h63 : n + m ≤ maxLen) (hbytes : (n + m) * bytes ≤ 140737488355328) (hbase : base ≤ w.heap.size)
    (h : ∀ v' w', w'.ownsRow base e size v' (n + m) (xs ++ news) → w.grownBy w' v.ownBlock → (v' = .slice none 0 0 ↔ v = .slice none 0 0 ∧ m = 0) → wpList P ops Q rest (a.put o.dst v') w') : wpList P ops Q (o :: rest) a w :=
  wpList_wanted hgd fun _ hK => wp_append_own w s x t ho base e i z size bytes ht hi hz hsize hby hzs hsz v n xs hs hown ad m c news hx hl hnews h1 h63 hbytes hbase fun v' w' h2 h3 h4 => hK _ _ (h v' w' h2 h3 h4)

set_option maxRecDepth 100000 in
set_option maxHeartbeats 8000000 in
theorem packSets_short (p q r : Option Addr) (n c m d o g : Nat) (L : List Nat) (l : List Int) (sX sY : Nat → Bool) (x : Int) (w : World) (hX : SetIs w p n c sX) (hY : SetIs w q m d sY) (hZ : In mkW w p n c L) (hL : In mkI w r o g l) (hn : n ≤ 1100) (hm : m ≤ 1100) (ho : o ≤ 100) :
    Calls Try.prog 8 #[.slice p n c, .slice q m d, .slice r o g, .int .i64 x] w fun e w' => e = .returned (.bool true) ∧ Below w.heap.size w w' := by
  obtain ⟨i23, hi23, hu0, hu1, hu2⟩ := info_parts info23
  obtain ⟨i3, hi3, hj0, hj1, hj2⟩ := info_parts info3
  have FX0 := Lib.hid hX
  have FY0 := Lib.hid hY
  have FZ0 := Lib.hid hZ
  have FL0 := Lib.hid hL
  have HLN := Lib.hid hZ.1
  have B0 := Lib.hid (Below.refl w.heap.size w)
  have hs0 : w.heap.size ≤ w.heap.size := Nat.le_refl _
  clear hX hY hZ hL
  go_enter Try.func8, Try.ntmps8
  go_wp2_with fail
  refine (sRefList p n c _ w FX0.out).mono ?_
  rintro e w1 ⟨q1, n1, c1, rfl, h1, hb1⟩
  have FA1 := Lib.hid h1
  clear h1
  have FX1 := Lib.hid (FX0.out.step hb1)
  clear FX0
  have FY1 := Lib.hid (FY0.out.step hb1)
  clear FY0
  have FL1 := Lib.hid (FL0.out.step hb1)
  clear FL0
  have FZ1 := Lib.hid (FZ0.out.step hb1)
  clear FZ0
  have B1 := Lib.hid (B0.out.trans (hb1.mono hs0))
  have hs1 : w.heap.size ≤ w1.heap.size := B1.out.size
  clear B0 hb1
  go_wp2_with fail
  refine (sRefList q m d _ w1 FY1.out).mono ?_
  rintro e w2 ⟨q2, n2, c2, rfl, h2, hb2⟩
  have FB2 := Lib.hid h2
  clear h2
  have FX2 := Lib.hid (FX1.out.step hb2)
  clear FX1
  have FY2 := Lib.hid (FY1.out.step hb2)
  clear FY1
  have FL2 := Lib.hid (FL1.out.step hb2)
  clear FL1
  have FZ2 := Lib.hid (FZ1.out.step hb2)
  clear FZ1
  have FA2 := Lib.hid (FA1.out.step hb2)
  clear FA1
  have B2 := Lib.hid (B1.out.trans (hb2.mono hs1))
  have hs2 : w.heap.size ≤ w2.heap.size := B2.out.size
  clear B1 hb2
  go_wp2_with (at_builtin; refine wpList_append_in _ rfl (.tmp 39) (.tmp 40) 53 rfl w2.heap.size 23 i23 (.int .u64 0) 8 Try.underlying53 hi23 hu0 hu1 hu2 rfl _ 0 [] rfl (World.ownsRow_made w2 #[] 0 (Nat.le_refl _) (Nat.zero_le _) rfl) mkW oneW p n c L rfl (FZ2.out.step ((Below.refl _ _).alloc (Nat.le_refl _) _)) (by unfold maxLen; omega) (by omega) (by simp) ?_)
  intro v3 w3 hown hgrow
  have hb3 := below_fresh _ hgrow
  have hown2 : w3.ownsRow w2.heap.size 23 1 v3 n (L.map mkW) := by simpa using hown
  obtain ⟨q3, c3, hv, hin⟩ := in_of_row hown2 HLN.out
  subst hv
  have FO3 := Lib.hid hin
  clear hown hown2 hin hgrow
  have FX3 := Lib.hid (FX2.out.step hb3)
  clear FX2
  have FY3 := Lib.hid (FY2.out.step hb3)
  clear FY2
  have FL3 := Lib.hid (FL2.out.step hb3)
  clear FL2
  have FZ3 := Lib.hid (FZ2.out.step hb3)
  clear FZ2
  have FA3 := Lib.hid (FA2.out.step hb3)
  clear FA2
  have FB3 := Lib.hid (FB2.out.step hb3)
  clear FB2
  have B3 := Lib.hid (B2.out.trans (hb3.mono hs2))
  have hs3 : w.heap.size ≤ w3.heap.size := B3.out.size
  clear B2 hb3
  as_aux_lemma =>
    go_wp2_with fail
    have HV : Hid (FRel (lst sX) (fun y => !decide (y ∈ lst sY)) n1 w3 (.slice none 0 0) (.int .i64 0) w3) := Lib.hid FRel.start _ _ _ _
    go_loopw [14, 46] (fun v i wr => FRel (lst sX) (fun y => !decide (y ∈ lst sY)) n1 w3 v i wr) (fun _ i _ => n1 - (intOf i).toNat)
    case atStart => exact HV.out
    case round =>
      obtain ⟨j, hj, hi, hown, hbe⟩ := hrel
      subst hi
      clear HV
      have HO := Lib.hid hown
      have HBE := Lib.hid hbe
      have hz := hbe.size
      have hA16 : n1 ≤ 100000 := by have := FA3.out.2; omega
      by_cases hlt : j < n1
      · as_aux_lemma =>
          obtain ⟨hna, h0 | ⟨b', o', hq, hc', hb', hat'⟩⟩ := FA3.out.1
          · omega
          subst hq
          have hjl : Hid (j < (lst sX).length) := Lib.hid (by rw [← hna]; exact hlt)
          have e1 : wr.cell? ⟨b', o' + j, none⟩ = some (.int .i64 ((lst sX)[j]'(hjl.out))) := (hbe.cell (p := ⟨b', o' + j, none⟩) hb').trans (hat' j hjl.out)
          have HT : Hid ((lst sX).take (j + 1) = (lst sX).take j ++ [(lst sX)[j]'(hjl.out)]) := Lib.hid (List.take_succ_eq_append_getElem hjl.out)
          have hfl : Hid ((((lst sX).take j).filter (fun y => !decide (y ∈ lst sY))).length ≤ 65536) := Lib.hid (filt_length sX j _)
          clear hat' hna hown hbe
          generalize (lst sX)[j]'(hjl.out) = y at *
          have HIS := isIn_any q2 n2 c2 (lst sY) y wr (FB3.out.step HBE.out).1 (by have := FB3.out.2; omega)
          by_cases hm : y ∈ lst sY
          · rw [decide_eq_true hm] at HIS
            have HS : Hid (((lst sX).take (j + 1)).filter (fun y => !decide (y ∈ lst sY)) = ((lst sX).take j).filter (fun y => !decide (y ∈ lst sY))) := Lib.hid (by rw [HT.out, List.filter_append]; simp [hm])
            clear hm
            go_wp2_with fail
            refine HIS.mono ?_
            rintro e w' ⟨rfl, rfl⟩
            go_wp2_with fail
            go_roundw
            case rel => exact ⟨j + 1, by omega, by go_num, by rw [HS.out]; exact HO.out, HBE.out⟩
            case measure => simp [intOf]; omega
          · rw [decide_eq_false hm] at HIS
            have HS : Hid (((lst sX).take (j + 1)).filter (fun y => !decide (y ∈ lst sY)) = ((lst sX).take j).filter (fun y => !decide (y ∈ lst sY)) ++ [y]) := Lib.hid (by rw [HT.out, List.filter_append]; simp [hm])
            clear hm
            go_wp2_with fail
            refine HIS.mono ?_
            rintro e w' ⟨rfl, rfl⟩
            go_wp2_with (at_builtin; refine wpList_append_own _ rfl _ _ 41 rfl w3.heap.size 3 i3 (.int .i64 0) 1 8 Try.underlying41 hi3 hj0 hj1 hj2 rfl (by omega) _ _ _ rfl (World.ownsRow.alloc HO.out _) ⟨_, 0, none⟩ 1 1 [Value.int .i64 y] rfl rfl (one_new _ _ _) (one_cell _ _) (by have := hfl.out; unfold maxLen; omega) (by have := hfl.out; omega) (by simp; omega) ?_)
            intro v' w' hown hgrow _
            have HW := Lib.hid (own_i hown (((lst sX).take (j + 1)).filter (fun y => !decide (y ∈ lst sY))) (by rw [HS.out]; simp) (by rw [HS.out]; simp))
            have HBB := Lib.hid (below_rowI HBE.out hz _ HO.out hgrow)
            clear hown hgrow
            go_wp2_with fail
            go_roundw
            case rel => exact ⟨j + 1, by omega, by go_num, HW.out, HBB.out⟩
            case measure => simp [intOf]; omega
      · have hown2 := HO.out
        rw [List.take_of_length_le (by rw [← FA3.out.1.1]; omega), lst_filter] at hown2
        obtain ⟨q4, c4, hv, hin⟩ := in_of_row hown2 rfl
        subst hv
        have FR4 : Hid (LstIs wr q4 (lst (fun v => sX v && !decide ((v : Int) ∈ lst sY))).length c4 ((fun v => sX v && !decide ((v : Int) ∈ lst sY)))) := Lib.hid ⟨hin, lst_length _⟩
        obtain ⟨w4, hww⟩ : ∃ x : World, x = wr := ⟨_, rfl⟩
        subst hww
        have hb4 := HBE.out
        clear hown2 hin hown hbe HO HBE hz hA16
        have FX4 := Lib.hid (FX3.out.step hb4)
        clear FX3
        have FY4 := Lib.hid (FY3.out.step hb4)
        clear FY3
        have FL4 := Lib.hid (FL3.out.step hb4)
        clear FL3
        have FZ4 := Lib.hid (FZ3.out.step hb4)
        clear FZ3
        have FA4 := Lib.hid (FA3.out.step hb4)
        clear FA3
        have FB4 := Lib.hid (FB3.out.step hb4)
        clear FB3
        have FO4 := Lib.hid (FO3.out.step hb4)
        clear FO3
        have B4 := Lib.hid (B3.out.trans (hb4.mono hs3))
        have hs4 : w.heap.size ≤ w4.heap.size := B4.out.size
        clear B3 hb4
        generalize hN4 : (lst (fun v => sX v && !decide ((v : Int) ∈ lst sY))).length = n4 at *
        have HN4 := Lib.hid hN4
        clear hN4
        as_aux_lemma =>
          go_wp2_with fail
          have HV : Hid (FRel (lst sX) (fun y => decide (y ≠ x)) n1 w4 (.slice (some ⟨w4.heap.size, 0, none⟩) 0 0) (.int .i64 0) (w4.alloc (.cells #[] 3))) := Lib.hid FRel.made _ _ _ _
          go_loopw [17, 62] (fun v i wr => FRel (lst sX) (fun y => decide (y ≠ x)) n1 w4 v i wr) (fun _ i _ => n1 - (intOf i).toNat)
          case atStart => exact HV.out
          case round =>
            obtain ⟨j, hj, hi, hown, hbe⟩ := hrel
            subst hi
            clear HV
            have HO := Lib.hid hown
            have HBE := Lib.hid hbe
            have hz := hbe.size
            have hA16 : n1 ≤ 100000 := by have := FA4.out.2; omega
            by_cases hlt : j < n1
            · as_aux_lemma =>
                obtain ⟨hna, h0 | ⟨b', o', hq, hc', hb', hat'⟩⟩ := FA4.out.1
                · omega
                subst hq
                have hjl : Hid (j < (lst sX).length) := Lib.hid (by rw [← hna]; exact hlt)
                have e1 : wr.cell? ⟨b', o' + j, none⟩ = some (.int .i64 ((lst sX)[j]'(hjl.out))) := (hbe.cell (p := ⟨b', o' + j, none⟩) hb').trans (hat' j hjl.out)
                have HT : Hid ((lst sX).take (j + 1) = (lst sX).take j ++ [(lst sX)[j]'(hjl.out)]) := Lib.hid (List.take_succ_eq_append_getElem hjl.out)
                have hfl : Hid ((((lst sX).take j).filter (fun y => decide (y ≠ x))).length ≤ 65536) := Lib.hid (filt_length sX j _)
                clear hat' hna hown hbe
                generalize (lst sX)[j]'(hjl.out) = y at *
                by_cases hm : y = x
                · have hb1 : (y == x) = true := by rw [beq_iff_eq]; exact hm
                  have hb2 : (y != x) = false := by rw [bne, hb1]; rfl
                  have HS : Hid (((lst sX).take (j + 1)).filter (fun y => decide (y ≠ x)) = ((lst sX).take j).filter (fun y => decide (y ≠ x))) := Lib.hid (by rw [HT.out, List.filter_append]; simp [hm])
                  clear hm
                  go_wp2_with fail
                  go_roundw
                  case rel => exact ⟨j + 1, by omega, by go_num, by rw [HS.out]; exact HO.out, HBE.out⟩
                  case measure => simp [intOf]; omega
                · have hb1 : (y == x) = false := by rw [beq_eq_false_iff_ne]; exact hm
                  have hb2 : (y != x) = true := by rw [bne, hb1]; rfl
                  have HS : Hid (((lst sX).take (j + 1)).filter (fun y => decide (y ≠ x)) = ((lst sX).take j).filter (fun y => decide (y ≠ x)) ++ [y]) := Lib.hid (by rw [HT.out, List.filter_append]; simp [hm])
                  clear hm
                  go_wp2_with (at_builtin; refine wpList_append_own _ rfl _ _ 41 rfl w4.heap.size 3 i3 (.int .i64 0) 1 8 Try.underlying41 hi3 hj0 hj1 hj2 rfl (by omega) _ _ _ rfl (World.ownsRow.alloc HO.out _) ⟨_, 0, none⟩ 1 1 [Value.int .i64 y] rfl rfl (one_new _ _ _) (one_cell _ _) (by have := hfl.out; unfold maxLen; omega) (by have := hfl.out; omega) (by simp; omega) ?_)
                  intro v' w' hown hgrow _
                  have HW := Lib.hid (own_i hown (((lst sX).take (j + 1)).filter (fun y => decide (y ≠ x))) (by rw [HS.out]; simp) (by rw [HS.out]; simp))
                  have HBB := Lib.hid (below_rowI HBE.out hz _ HO.out hgrow)
                  clear hown hgrow
                  go_wp2_with fail
                  go_roundw
                  case rel => exact ⟨j + 1, by omega, by go_num, HW.out, HBB.out⟩
                  case measure => simp [intOf]; omega
            · have hown2 := HO.out
              rw [List.take_of_length_le (by rw [← FA4.out.1.1]; omega), lst_filter] at hown2
              obtain ⟨q5, c5, hv, hin⟩ := in_of_row hown2 rfl
              subst hv
              have FE5 : Hid (LstIs wr q5 (lst (fun v => sX v && decide ((v : Int) ≠ x))).length c5 ((fun v => sX v && decide ((v : Int) ≠ x)))) := Lib.hid ⟨hin, lst_length _⟩
              obtain ⟨w5, hww⟩ : ∃ x : World, x = wr := ⟨_, rfl⟩
              subst hww
              have hb5 := HBE.out
              clear hown2 hin hown hbe HO HBE hz hA16
              have FX5 := Lib.hid (FX4.out.step hb5)
              clear FX4
              have FY5 := Lib.hid (FY4.out.step hb5)
              clear FY4
              have FL5 := Lib.hid (FL4.out.step hb5)
              clear FL4
              have FZ5 := Lib.hid (FZ4.out.step hb5)
              clear FZ4
              have FA5 := Lib.hid (FA4.out.step hb5)
              clear FA4
              have FB5 := Lib.hid (FB4.out.step hb5)
              clear FB4
              have FO5 := Lib.hid (FO4.out.step hb5)
              clear FO4
              have FR5 := Lib.hid (FR4.out.step hb5)
              clear FR4
              have B5 := Lib.hid (B4.out.trans (hb5.mono hs4))
              have hs5 : w.heap.size ≤ w5.heap.size := B5.out.size
              clear B4 hb5
              generalize hN5 : (lst (fun v => sX v && decide ((v : Int) ≠ x))).length = n5 at *
              have HN5 := Lib.hid hN5
              clear hN5
              as_aux_lemma =>
                go_wp2_with fail
                refine (sList p n c _ w5 FX5.out).mono ?_
                rintro e w6 ⟨q6, n6, c6, rfl, h6, hb6⟩
                have FT16 := Lib.hid h6
                clear h6
                have FX6 := Lib.hid (FX5.out.step hb6)
                clear FX5
                have FY6 := Lib.hid (FY5.out.step hb6)
                clear FY5
                have FL6 := Lib.hid (FL5.out.step hb6)
                clear FL5
                have FZ6 := Lib.hid (FZ5.out.step hb6)
                clear FZ5
                have FA6 := Lib.hid (FA5.out.step hb6)
                clear FA5
                have FB6 := Lib.hid (FB5.out.step hb6)
                clear FB5
                have FO6 := Lib.hid (FO5.out.step hb6)
                clear FO5
                have FR6 := Lib.hid (FR5.out.step hb6)
                clear FR5
                have FE6 := Lib.hid (FE5.out.step hb6)
                clear FE5
                have B6 := Lib.hid (B5.out.trans (hb6.mono hs5))
                have hs6 : w.heap.size ≤ w6.heap.size := B6.out.size
                clear B5 hb6
                go_wp2_with fail
                refine (sIntsL q6 q1 n6 c6 n1 c1 _ _ w6 FT16.out FA6.out (fun v _ => rfl)).mono ?_
                rintro e w7 ⟨rfl, hb7⟩
                clear FT16
                have FX7 := Lib.hid (FX6.out.step hb7)
                clear FX6
                have FY7 := Lib.hid (FY6.out.step hb7)
                clear FY6
                have FL7 := Lib.hid (FL6.out.step hb7)
                clear FL6
                have FZ7 := Lib.hid (FZ6.out.step hb7)
                clear FZ6
                have FA7 := Lib.hid (FA6.out.step hb7)
                clear FA6
                have FB7 := Lib.hid (FB6.out.step hb7)
                clear FB6
                have FO7 := Lib.hid (FO6.out.step hb7)
                clear FO6
                have FR7 := Lib.hid (FR6.out.step hb7)
                clear FR6
                have FE7 := Lib.hid (FE6.out.step hb7)
                clear FE6
                have B7 := Lib.hid (B6.out.trans (hb7.mono hs6))
                have hs7 : w.heap.size ≤ w7.heap.size := B7.out.size
                clear B6 hb7
                have HAN : Hid (n1 = (lst sX).length) := Lib.hid FA7.out.1.1
                go_wp2_with fail
                refine (sLen p n c _ w7 FX7.out).mono ?_
                rintro e w' ⟨rfl, rfl⟩
                rw [← HAN.out]
                go_wp2_with fail
                refine (sHas p n c _ x w7 FX7.out).mono ?_
                rintro e w' ⟨rfl, rfl⟩
                go_wp2_with fail
                refine (isIn_any q1 n1 c1 (lst sX) x w7 FA7.out.1 (by have := FA7.out.2; omega)).mono ?_
                rintro e w' ⟨rfl, rfl⟩
                rw [has_in sX x]
                generalize (mayB x && sX x.toNat) = bx at *
                as_aux_lemma =>
                  go_wp2_with fail
                  refine (sRest p q n c m d _ _ w7 FX7.out FY7.out).mono ?_
                  rintro e w8 ⟨q8, n8, c8, rfl, h8, hb8⟩
                  have FT18 := Lib.hid h8
                  clear h8
                  have FX8 := Lib.hid (FX7.out.step hb8)
                  clear FX7
                  have FY8 := Lib.hid (FY7.out.step hb8)
                  clear FY7
                  have FL8 := Lib.hid (FL7.out.step hb8)
                  clear FL7
                  have FZ8 := Lib.hid (FZ7.out.step hb8)
                  clear FZ7
                  have FA8 := Lib.hid (FA7.out.step hb8)
                  clear FA7
                  have FB8 := Lib.hid (FB7.out.step hb8)
                  clear FB7
                  have FO8 := Lib.hid (FO7.out.step hb8)
                  clear FO7
                  have FR8 := Lib.hid (FR7.out.step hb8)
                  clear FR7
                  have FE8 := Lib.hid (FE7.out.step hb8)
                  clear FE7
                  have B8 := Lib.hid (B7.out.trans (hb8.mono hs7))
                  have hs8 : w.heap.size ≤ w8.heap.size := B8.out.size
                  clear B7 hb8
                  go_wp2_with fail
                  refine (sList q8 n8 c8 _ w8 FT18.out).mono ?_
                  rintro e w9 ⟨q9, n9, c9, rfl, h9, hb9⟩
                  have FT29 := Lib.hid h9
                  clear h9
                  clear FT18
                  have FX9 := Lib.hid (FX8.out.step hb9)
                  clear FX8
                  have FY9 := Lib.hid (FY8.out.step hb9)
                  clear FY8
                  have FL9 := Lib.hid (FL8.out.step hb9)
                  clear FL8
                  have FZ9 := Lib.hid (FZ8.out.step hb9)
                  clear FZ8
                  have FA9 := Lib.hid (FA8.out.step hb9)
                  clear FA8
                  have FB9 := Lib.hid (FB8.out.step hb9)
                  clear FB8
                  have FO9 := Lib.hid (FO8.out.step hb9)
                  clear FO8
                  have FR9 := Lib.hid (FR8.out.step hb9)
                  clear FR8
                  have FE9 := Lib.hid (FE8.out.step hb9)
                  clear FE8
                  have B9 := Lib.hid (B8.out.trans (hb9.mono hs8))
                  have hs9 : w.heap.size ≤ w9.heap.size := B9.out.size
                  clear B8 hb9
                  go_wp2_with fail
                  refine (sIntsL q9 q4 n9 c9 n4 c4 _ _ w9 FT29.out FR9.out (fun v hv => by simp only [in_lst sY v hv])).mono ?_
                  rintro e w10 ⟨rfl, hb10⟩
                  clear FT29
                  clear FR9
                  have FX10 := Lib.hid (FX9.out.step hb10)
                  clear FX9
                  have FY10 := Lib.hid (FY9.out.step hb10)
                  clear FY9
                  have FL10 := Lib.hid (FL9.out.step hb10)
                  clear FL9
                  have FZ10 := Lib.hid (FZ9.out.step hb10)
                  clear FZ9
                  have FA10 := Lib.hid (FA9.out.step hb10)
                  clear FA9
                  have FB10 := Lib.hid (FB9.out.step hb10)
                  clear FB9
                  have FO10 := Lib.hid (FO9.out.step hb10)
                  clear FO9
                  have FE10 := Lib.hid (FE9.out.step hb10)
                  clear FE9
                  have B10 := Lib.hid (B9.out.trans (hb10.mono hs9))
                  have hs10 : w.heap.size ≤ w10.heap.size := B10.out.size
                  clear B9 hb10
                  as_aux_lemma =>
                    go_wp2_with fail
                    refine (sWithout p n c _ x w10 FX10.out).mono ?_
                    rintro e w11 ⟨q11, n11, c11, rfl, h11, hb11⟩
                    have FT111 := Lib.hid h11
                    clear h11
                    have FX11 := Lib.hid (FX10.out.step hb11)
                    clear FX10
                    have FY11 := Lib.hid (FY10.out.step hb11)
                    clear FY10
                    have FL11 := Lib.hid (FL10.out.step hb11)
                    clear FL10
                    have FZ11 := Lib.hid (FZ10.out.step hb11)
                    clear FZ10
                    have FA11 := Lib.hid (FA10.out.step hb11)
                    clear FA10
                    have FB11 := Lib.hid (FB10.out.step hb11)
                    clear FB10
                    have FO11 := Lib.hid (FO10.out.step hb11)
                    clear FO10
                    have FE11 := Lib.hid (FE10.out.step hb11)
                    clear FE10
                    have B11 := Lib.hid (B10.out.trans (hb11.mono hs10))
                    have hs11 : w.heap.size ≤ w11.heap.size := B11.out.size
                    clear B10 hb11
                    go_wp2_with fail
                    refine (sList q11 n11 c11 _ w11 FT111.out).mono ?_
                    rintro e w12 ⟨q12, n12, c12, rfl, h12, hb12⟩
                    have FT212 := Lib.hid h12
                    clear h12
                    clear FT111
                    have FX12 := Lib.hid (FX11.out.step hb12)
                    clear FX11
                    have FY12 := Lib.hid (FY11.out.step hb12)
                    clear FY11
                    have FL12 := Lib.hid (FL11.out.step hb12)
                    clear FL11
                    have FZ12 := Lib.hid (FZ11.out.step hb12)
                    clear FZ11
                    have FA12 := Lib.hid (FA11.out.step hb12)
                    clear FA11
                    have FB12 := Lib.hid (FB11.out.step hb12)
                    clear FB11
                    have FO12 := Lib.hid (FO11.out.step hb12)
                    clear FO11
                    have FE12 := Lib.hid (FE11.out.step hb12)
                    clear FE11
                    have B12 := Lib.hid (B11.out.trans (hb12.mono hs11))
                    have hs12 : w.heap.size ≤ w12.heap.size := B12.out.size
                    clear B11 hb12
                    go_wp2_with fail
                    refine (sIntsL q12 q5 n12 c12 n5 c5 _ _ w12 FT212.out FE12.out (fun v hv => rfl)).mono ?_
                    rintro e w13 ⟨rfl, hb13⟩
                    clear FT212
                    clear FE12
                    have FX13 := Lib.hid (FX12.out.step hb13)
                    clear FX12
                    have FY13 := Lib.hid (FY12.out.step hb13)
                    clear FY12
                    have FL13 := Lib.hid (FL12.out.step hb13)
                    clear FL12
                    have FZ13 := Lib.hid (FZ12.out.step hb13)
                    clear FZ12
                    have FA13 := Lib.hid (FA12.out.step hb13)
                    clear FA12
                    have FB13 := Lib.hid (FB12.out.step hb13)
                    clear FB12
                    have FO13 := Lib.hid (FO12.out.step hb13)
                    clear FO12
                    have B13 := Lib.hid (B12.out.trans (hb13.mono hs12))
                    have hs13 : w.heap.size ≤ w13.heap.size := B13.out.size
                    clear B12 hb13
                    as_aux_lemma =>
                      go_wp2_with fail
                      refine (sOf r o g l w13 FL13.out (by omega)).mono ?_
                      rintro e w14 ⟨q14, n14, c14, rfl, h14, hb14⟩
                      have FT114 := Lib.hid h14
                      clear h14
                      have FX14 := Lib.hid (FX13.out.step hb14)
                      clear FX13
                      have FY14 := Lib.hid (FY13.out.step hb14)
                      clear FY13
                      have FL14 := Lib.hid (FL13.out.step hb14)
                      clear FL13
                      have FZ14 := Lib.hid (FZ13.out.step hb14)
                      clear FZ13
                      have FA14 := Lib.hid (FA13.out.step hb14)
                      clear FA13
                      have FB14 := Lib.hid (FB13.out.step hb14)
                      clear FB13
                      have FO14 := Lib.hid (FO13.out.step hb14)
                      clear FO13
                      have B14 := Lib.hid (B13.out.trans (hb14.mono hs13))
                      have hs14 : w.heap.size ≤ w14.heap.size := B14.out.size
                      clear B13 hb14
                      go_wp2_with fail
                      refine (sList q14 n14 c14 _ w14 FT114.out).mono ?_
                      rintro e w15 ⟨q15, n15, c15, rfl, h15, hb15⟩
                      have FT215 := Lib.hid h15
                      clear h15
                      clear FT114
                      have FX15 := Lib.hid (FX14.out.step hb15)
                      clear FX14
                      have FY15 := Lib.hid (FY14.out.step hb15)
                      clear FY14
                      have FL15 := Lib.hid (FL14.out.step hb15)
                      clear FL14
                      have FZ15 := Lib.hid (FZ14.out.step hb15)
                      clear FZ14
                      have FA15 := Lib.hid (FA14.out.step hb15)
                      clear FA14
                      have FB15 := Lib.hid (FB14.out.step hb15)
                      clear FB14
                      have FO15 := Lib.hid (FO14.out.step hb15)
                      clear FO14
                      have B15 := Lib.hid (B14.out.trans (hb15.mono hs14))
                      have hs15 : w.heap.size ≤ w15.heap.size := B15.out.size
                      clear B14 hb15
                      go_wp2_with fail
                      refine (sRising r o g l w15 FL15.out (by omega)).mono ?_
                      rintro e w16 ⟨q16, n16, c16, rfl, h16, hb16⟩
                      have FT316 := Lib.hid h16
                      clear h16
                      have FX16 := Lib.hid (FX15.out.step hb16)
                      clear FX15
                      have FY16 := Lib.hid (FY15.out.step hb16)
                      clear FY15
                      have FL16 := Lib.hid (FL15.out.step hb16)
                      clear FL15
                      have FZ16 := Lib.hid (FZ15.out.step hb16)
                      clear FZ15
                      have FA16 := Lib.hid (FA15.out.step hb16)
                      clear FA15
                      have FB16 := Lib.hid (FB15.out.step hb16)
                      clear FB15
                      have FO16 := Lib.hid (FO15.out.step hb16)
                      clear FO15
                      have FT216 := Lib.hid (FT215.out.step hb16)
                      clear FT215
                      have B16 := Lib.hid (B15.out.trans (hb16.mono hs15))
                      have hs16 : w.heap.size ≤ w16.heap.size := B16.out.size
                      clear B15 hb16
                      go_wp2_with fail
                      refine (sIntsL q15 q16 n15 c15 n16 c16 _ _ w16 FT216.out FT316.out (fun v hv => rfl)).mono ?_
                      rintro e w17 ⟨rfl, hb17⟩
                      clear FT216
                      clear FT316
                      have FX17 := Lib.hid (FX16.out.step hb17)
                      clear FX16
                      have FY17 := Lib.hid (FY16.out.step hb17)
                      clear FY16
                      have FL17 := Lib.hid (FL16.out.step hb17)
                      clear FL16
                      have FZ17 := Lib.hid (FZ16.out.step hb17)
                      clear FZ16
                      have FA17 := Lib.hid (FA16.out.step hb17)
                      clear FA16
                      have FB17 := Lib.hid (FB16.out.step hb17)
                      clear FB16
                      have FO17 := Lib.hid (FO16.out.step hb17)
                      clear FO16
                      have B17 := Lib.hid (B16.out.trans (hb17.mono hs16))
                      have hs17 : w.heap.size ≤ w17.heap.size := B17.out.size
                      clear B16 hb17
                      as_aux_lemma =>
                        by_cases hsum : n1 + n2 ≤ 300
                        · have hA3 : n1 ≤ 300 := by omega
                          go_wp2_with fail
                          refine (sJoin p q n c m d _ _ w17 FX17.out FY17.out).mono ?_
                          rintro e w18 ⟨q18, n18, c18, rfl, h18, hb18⟩
                          have FT118 := Lib.hid h18
                          clear h18
                          have FX18 := Lib.hid (FX17.out.step hb18)
                          clear FX17
                          have FY18 := Lib.hid (FY17.out.step hb18)
                          clear FY17
                          have FL18 := Lib.hid (FL17.out.step hb18)
                          clear FL17
                          have FZ18 := Lib.hid (FZ17.out.step hb18)
                          clear FZ17
                          have FA18 := Lib.hid (FA17.out.step hb18)
                          clear FA17
                          have FB18 := Lib.hid (FB17.out.step hb18)
                          clear FB17
                          have FO18 := Lib.hid (FO17.out.step hb18)
                          clear FO17
                          have B18 := Lib.hid (B17.out.trans (hb18.mono hs17))
                          have hs18 : w.heap.size ≤ w18.heap.size := B18.out.size
                          clear B17 hb18
                          go_wp2_with fail
                          refine (sList q18 n18 c18 _ w18 FT118.out).mono ?_
                          rintro e w19 ⟨q19, n19, c19, rfl, h19, hb19⟩
                          have FT219 := Lib.hid h19
                          clear h19
                          clear FT118
                          have FX19 := Lib.hid (FX18.out.step hb19)
                          clear FX18
                          have FY19 := Lib.hid (FY18.out.step hb19)
                          clear FY18
                          have FL19 := Lib.hid (FL18.out.step hb19)
                          clear FL18
                          have FZ19 := Lib.hid (FZ18.out.step hb19)
                          clear FZ18
                          have FA19 := Lib.hid (FA18.out.step hb19)
                          clear FA18
                          have FB19 := Lib.hid (FB18.out.step hb19)
                          clear FB18
                          have FO19 := Lib.hid (FO18.out.step hb19)
                          clear FO18
                          have B19 := Lib.hid (B18.out.trans (hb19.mono hs18))
                          have hs19 : w.heap.size ≤ w19.heap.size := B19.out.size
                          clear B18 hb19
                          go_wp2_with (at_builtin; refine wpList_append_inW _ (by first | rfl | simp [Region.wanted, yielded]) (.tmp 133) (.tmp 134) 41 rfl w19.heap.size 3 i3 (.int .i64 0) 8 Try.underlying41 hi3 hj0 hj1 hj2 rfl _ 0 [] rfl (World.ownsRow_made w19 #[] 0 (Nat.le_refl _) (Nat.zero_le _) rfl) mkI oneI q1 n1 c1 (lst sX) rfl (FA19.out.1.step ((Below.refl _ _).alloc (Nat.le_refl _) _)) (by unfold maxLen; omega) (by omega) (by simp) ?_)
                          intro va wa howna hgrowa
                          have hba := below_fresh _ hgrowa
                          have hza := hba.size
                          have HOA : Hid (wa.ownsRow w19.heap.size 3 1 va n1 ((lst sX).map mkI)) := Lib.hid (by simpa using howna)
                          have HBA := Lib.hid hba
                          clear howna hgrowa hba
                          have HFB := Lib.hid (FB19.out.1.step HBA.out)
                          go_wp2_with (at_builtin; refine wpList_append_inW _ (by first | rfl | simp [Region.wanted, yielded]) (.tmp 135) (.tmp 136) 41 rfl w19.heap.size 3 i3 (.int .i64 0) 8 Try.underlying41 hi3 hj0 hj1 hj2 rfl _ n1 _ rfl HOA.out mkI oneI q2 n2 c2 (lst sY) rfl HFB.out (by unfold maxLen; omega) (by omega) hza ?_)
                          intro vb w20 hownb hgrowb
                          have hb20 : Below w19.heap.size w19 w20 := HBA.out.grown hgrowb hza (fun q hq => (World.ownsRow.lt HOA.out q hq).1)
                          have hlu : n1 + n2 = (lst sX ++ lst sY).length := by rw [List.length_append, ← FA19.out.1.1, ← FB19.out.1.1]
                          have hob : w20.ownsRow w19.heap.size 3 1 vb (n1 + n2) ((lst sX ++ lst sY).map mkI) := by rw [List.map_append]; exact hownb
                          clear HFB
                          obtain ⟨q20, c20, hv, hin⟩ := in_of_row hob hlu
                          subst hv
                          have FU20 := Lib.hid hin
                          clear hownb hgrowb hob hlu hin HOA HBA hza
                          have FX20 := Lib.hid (FX19.out.step hb20)
                          clear FX19
                          have FY20 := Lib.hid (FY19.out.step hb20)
                          clear FY19
                          have FL20 := Lib.hid (FL19.out.step hb20)
                          clear FL19
                          have FZ20 := Lib.hid (FZ19.out.step hb20)
                          clear FZ19
                          have FA20 := Lib.hid (FA19.out.step hb20)
                          clear FA19
                          have FB20 := Lib.hid (FB19.out.step hb20)
                          clear FB19
                          have FO20 := Lib.hid (FO19.out.step hb20)
                          clear FO19
                          have FT220 := Lib.hid (FT219.out.step hb20)
                          clear FT219
                          have B20 := Lib.hid (B19.out.trans (hb20.mono hs19))
                          have hs20 : w.heap.size ≤ w20.heap.size := B20.out.size
                          clear B19 hb20
                          go_wp2_with fail
                          refine (sRising q20 (n1 + n2) c20 (lst sX ++ lst sY) w20 FU20.out (by omega)).mono ?_
                          rintro e w21 ⟨q21, n21, c21, rfl, h21, hb21⟩
                          have FT321 := Lib.hid h21
                          clear h21
                          clear FU20
                          have FX21 := Lib.hid (FX20.out.step hb21)
                          clear FX20
                          have FY21 := Lib.hid (FY20.out.step hb21)
                          clear FY20
                          have FL21 := Lib.hid (FL20.out.step hb21)
                          clear FL20
                          have FZ21 := Lib.hid (FZ20.out.step hb21)
                          clear FZ20
                          have FA21 := Lib.hid (FA20.out.step hb21)
                          clear FA20
                          have FB21 := Lib.hid (FB20.out.step hb21)
                          clear FB20
                          have FO21 := Lib.hid (FO20.out.step hb21)
                          clear FO20
                          have FT221 := Lib.hid (FT220.out.step hb21)
                          clear FT220
                          have B21 := Lib.hid (B20.out.trans (hb21.mono hs20))
                          have hs21 : w.heap.size ≤ w21.heap.size := B21.out.size
                          clear B20 hb21
                          go_wp2_with fail
                          refine (sIntsL q19 q21 n19 c19 n21 c21 _ _ w21 FT221.out FT321.out (fun v hv => in_app sX sY v hv)).mono ?_
                          rintro e w22 ⟨rfl, hb22⟩
                          clear FT221
                          clear FT321
                          have FX22 := Lib.hid (FX21.out.step hb22)
                          clear FX21
                          have FY22 := Lib.hid (FY21.out.step hb22)
                          clear FY21
                          have FL22 := Lib.hid (FL21.out.step hb22)
                          clear FL21
                          have FZ22 := Lib.hid (FZ21.out.step hb22)
                          clear FZ21
                          have FA22 := Lib.hid (FA21.out.step hb22)
                          clear FA21
                          have FB22 := Lib.hid (FB21.out.step hb22)
                          clear FB21
                          have FO22 := Lib.hid (FO21.out.step hb22)
                          clear FO21
                          have B22 := Lib.hid (B21.out.trans (hb22.mono hs21))
                          have hs22 : w.heap.size ≤ w22.heap.size := B22.out.size
                          clear B21 hb22
                          as_aux_lemma =>
                            go_wp2_with fail
                            refine (sWith p n c _ x w22 FX22.out).mono ?_
                            rintro e w23 ⟨q23, n23, c23, rfl, h23, hb23⟩
                            have FT123 := Lib.hid h23
                            clear h23
                            have FX23 := Lib.hid (FX22.out.step hb23)
                            clear FX22
                            have FY23 := Lib.hid (FY22.out.step hb23)
                            clear FY22
                            have FL23 := Lib.hid (FL22.out.step hb23)
                            clear FL22
                            have FZ23 := Lib.hid (FZ22.out.step hb23)
                            clear FZ22
                            have FA23 := Lib.hid (FA22.out.step hb23)
                            clear FA22
                            have FB23 := Lib.hid (FB22.out.step hb23)
                            clear FB22
                            have FO23 := Lib.hid (FO22.out.step hb23)
                            clear FO22
                            have B23 := Lib.hid (B22.out.trans (hb23.mono hs22))
                            have hs23 : w.heap.size ≤ w23.heap.size := B23.out.size
                            clear B22 hb23
                            go_wp2_with fail
                            refine (sList q23 n23 c23 _ w23 FT123.out).mono ?_
                            rintro e w24 ⟨q24, n24, c24, rfl, h24, hb24⟩
                            have FT224 := Lib.hid h24
                            clear h24
                            clear FT123
                            have FX24 := Lib.hid (FX23.out.step hb24)
                            clear FX23
                            have FY24 := Lib.hid (FY23.out.step hb24)
                            clear FY23
                            have FL24 := Lib.hid (FL23.out.step hb24)
                            clear FL23
                            have FZ24 := Lib.hid (FZ23.out.step hb24)
                            clear FZ23
                            have FA24 := Lib.hid (FA23.out.step hb24)
                            clear FA23
                            have FB24 := Lib.hid (FB23.out.step hb24)
                            clear FB23
                            have FO24 := Lib.hid (FO23.out.step hb24)
                            clear FO23
                            have B24 := Lib.hid (B23.out.trans (hb24.mono hs23))
                            have hs24 : w.heap.size ≤ w24.heap.size := B24.out.size
                            clear B23 hb24
                            go_wp2_with (at_builtin; refine wpList_append_inW _ (by first | rfl | simp [Region.wanted, yielded]) (.tmp 146) (.tmp 147) 41 rfl w24.heap.size 3 i3 (.int .i64 0) 8 Try.underlying41 hi3 hj0 hj1 hj2 rfl _ 0 [] rfl (World.ownsRow_made w24 #[] 0 (Nat.le_refl _) (Nat.zero_le _) rfl) mkI oneI q1 n1 c1 (lst sX) rfl (FA24.out.1.step ((Below.refl _ _).alloc (Nat.le_refl _) _)) (by unfold maxLen; omega) (by omega) (by simp) ?_)
                            intro va wa howna hgrowa
                            have hba := below_fresh _ hgrowa
                            have hza := hba.size
                            have HOA : Hid (wa.ownsRow w24.heap.size 3 1 va n1 ((lst sX).map mkI)) := Lib.hid (by simpa using howna)
                            have HBA := Lib.hid hba
                            clear howna hgrowa hba
                            go_wp2_with (at_builtin; refine wpList_append_ownW (by first | rfl | simp [Region.wanted, yielded]) _ _ 41 rfl w24.heap.size 3 i3 (.int .i64 0) 1 8 Try.underlying41 hi3 hj0 hj1 hj2 rfl (by omega) _ n1 _ rfl (World.ownsRow.alloc HOA.out _) ⟨_, 0, none⟩ 1 1 [Value.int .i64 x] rfl rfl (one_new _ _ _) (one_cell _ _) (by unfold maxLen; omega) (by omega) (by simp; omega) ?_)
                            intro vb w25 hownb hgrowb _
                            have hb25 := below_rowI HBA.out hza _ HOA.out hgrowb
                            have hlu : n1 + 1 = (lst sX ++ [x]).length := by rw [List.length_append, ← FA24.out.1.1]; rfl
                            have hob : w25.ownsRow w24.heap.size 3 1 vb (n1 + 1) ((lst sX ++ [x]).map mkI) := by rw [List.map_append]; exact hownb
                            obtain ⟨q25, c25, hv, hin⟩ := in_of_row hob hlu
                            subst hv
                            have FU25 := Lib.hid hin
                            clear hownb hgrowb hob hlu hin HOA HBA hza
                            have FX25 := Lib.hid (FX24.out.step hb25)
                            clear FX24
                            have FY25 := Lib.hid (FY24.out.step hb25)
                            clear FY24
                            have FL25 := Lib.hid (FL24.out.step hb25)
                            clear FL24
                            have FZ25 := Lib.hid (FZ24.out.step hb25)
                            clear FZ24
                            have FA25 := Lib.hid (FA24.out.step hb25)
                            clear FA24
                            have FB25 := Lib.hid (FB24.out.step hb25)
                            clear FB24
                            have FO25 := Lib.hid (FO24.out.step hb25)
                            clear FO24
                            have FT225 := Lib.hid (FT224.out.step hb25)
                            clear FT224
                            have B25 := Lib.hid (B24.out.trans (hb25.mono hs24))
                            have hs25 : w.heap.size ≤ w25.heap.size := B25.out.size
                            clear B24 hb25
                            go_wp2_with fail
                            refine (sRising q25 (n1 + 1) c25 (lst sX ++ [x]) w25 FU25.out (by omega)).mono ?_
                            rintro e w26 ⟨q26, n26, c26, rfl, h26, hb26⟩
                            have FT326 := Lib.hid h26
                            clear h26
                            clear FU25
                            have FX26 := Lib.hid (FX25.out.step hb26)
                            clear FX25
                            have FY26 := Lib.hid (FY25.out.step hb26)
                            clear FY25
                            have FL26 := Lib.hid (FL25.out.step hb26)
                            clear FL25
                            have FZ26 := Lib.hid (FZ25.out.step hb26)
                            clear FZ25
                            have FA26 := Lib.hid (FA25.out.step hb26)
                            clear FA25
                            have FB26 := Lib.hid (FB25.out.step hb26)
                            clear FB25
                            have FO26 := Lib.hid (FO25.out.step hb26)
                            clear FO25
                            have FT226 := Lib.hid (FT225.out.step hb26)
                            clear FT225
                            have B26 := Lib.hid (B25.out.trans (hb26.mono hs25))
                            have hs26 : w.heap.size ≤ w26.heap.size := B26.out.size
                            clear B25 hb26
                            go_wp2_with fail
                            refine (sIntsL q24 q26 n24 c24 n26 c26 _ _ w26 FT226.out FT326.out (fun v hv => in_one sX x v hv)).mono ?_
                            rintro e w27 ⟨rfl, hb27⟩
                            clear FT226
                            clear FT326
                            have FX27 := Lib.hid (FX26.out.step hb27)
                            clear FX26
                            have FY27 := Lib.hid (FY26.out.step hb27)
                            clear FY26
                            have FL27 := Lib.hid (FL26.out.step hb27)
                            clear FL26
                            have FZ27 := Lib.hid (FZ26.out.step hb27)
                            clear FZ26
                            have FA27 := Lib.hid (FA26.out.step hb27)
                            clear FA26
                            have FB27 := Lib.hid (FB26.out.step hb27)
                            clear FB26
                            have FO27 := Lib.hid (FO26.out.step hb27)
                            clear FO26
                            have B27 := Lib.hid (B26.out.trans (hb27.mono hs26))
                            have hs27 : w.heap.size ≤ w27.heap.size := B27.out.size
                            clear B26 hb27
                            as_aux_lemma =>
                              go_wp2_with fail
                              go_loopw [159] (fun i wr => ∃ j : Nat, j ≤ n ∧ i = .int .i64 (j : Int) ∧ Below w27.heap.size w27 wr) (fun i _ => n - (intOf i).toNat)
                              case atStart => exact ⟨0, by omega, rfl, Below.refl _ _⟩
                              case round =>
                                obtain ⟨j, hj, rfl, hbe⟩ := hrel
                                have HBE := Lib.hid hbe
                                have hz := hbe.size
                                by_cases hlt : j < n
                                · obtain ⟨hna, h0 | ⟨b1, o1, hq1, hc1, hb1, hat1⟩⟩ := FO27.out
                                  · omega
                                  obtain ⟨hnb, h0 | ⟨b2, o2, hq2, hc2, hb2, hat2⟩⟩ := FZ27.out
                                  · omega
                                  subst hq1
                                  subst hq2
                                  have hjl : Hid (j < L.length) := Lib.hid (by rw [← HLN.out]; exact hlt)
                                  have e1 := (hbe.cell (p := ⟨b1, o1 + j, none⟩) hb1).trans (hat1 j hjl.out)
                                  have e2 := (hbe.cell (p := ⟨b2, o2 + j, none⟩) hb2).trans (hat2 j hjl.out)
                                  clear hat1 hat2 hna hnb hbe
                                  generalize L[j]'(hjl.out) = y at *
                                  have hyy : ((y : Int) != (y : Int)) = false := by simp
                                  go_wp2_with fail
                                  go_quiet (fail)
                                  go_wp2_with fail
                                  go_roundw
                                  case rel => exact ⟨j + 1, by omega, by go_num, below_drewN HBE.out _⟩
                                  case measure => simp [intOf]; omega
                                · clear hbe
                                  go_wp2_with (go_at_call 12; refine (alive_any _).mono ?_; rintro e w' ⟨rfl, hb'⟩)
                                  go_ret
                                  exact ⟨rfl, (B27.out.trans (HBE.out.mono hs27)).trans (hb'.mono (by omega))⟩
                        · as_aux_lemma =>
                            have hAB : n1 + n2 ≤ 200000 := by have := FA17.out.2; have := FB17.out.2; omega
                            go_wp2_with fail
                            go_loopw [159] (fun i wr => ∃ j : Nat, j ≤ n ∧ i = .int .i64 (j : Int) ∧ Below w17.heap.size w17 wr) (fun i _ => n - (intOf i).toNat)
                            case atStart => exact ⟨0, by omega, rfl, Below.refl _ _⟩
                            case round =>
                              obtain ⟨j, hj, rfl, hbe⟩ := hrel
                              have HBE := Lib.hid hbe
                              have hz := hbe.size
                              by_cases hlt : j < n
                              · obtain ⟨hna, h0 | ⟨b1, o1, hq1, hc1, hb1, hat1⟩⟩ := FO17.out
                                · omega
                                obtain ⟨hnb, h0 | ⟨b2, o2, hq2, hc2, hb2, hat2⟩⟩ := FZ17.out
                                · omega
                                subst hq1
                                subst hq2
                                have hjl : Hid (j < L.length) := Lib.hid (by rw [← HLN.out]; exact hlt)
                                have e1 := (hbe.cell (p := ⟨b1, o1 + j, none⟩) hb1).trans (hat1 j hjl.out)
                                have e2 := (hbe.cell (p := ⟨b2, o2 + j, none⟩) hb2).trans (hat2 j hjl.out)
                                clear hat1 hat2 hna hnb hbe
                                generalize L[j]'(hjl.out) = y at *
                                have hyy : ((y : Int) != (y : Int)) = false := by simp
                                go_wp2_with fail
                                go_quiet (fail)
                                go_wp2_with fail
                                go_roundw
                                case rel => exact ⟨j + 1, by omega, by go_num, below_drewN HBE.out _⟩
                                case measure => simp [intOf]; omega
                              · clear hbe
                                go_wp2_with (go_at_call 12; refine (alive_any _).mono ?_; rintro e w' ⟨rfl, hb'⟩)
                                go_ret
                                exact ⟨rfl, (B17.out.trans (HBE.out.mono hs17)).trans (hb'.mono (by omega))⟩


set_option maxRecDepth 100000 in
theorem packSets_long (p q r : Option Addr) (n c m d o g : Nat) (x : Int) (w : World) (hn : n ≤ 9223372036854775807) (hm : m ≤ 9223372036854775807) (ho : o ≤ 9223372036854775807) (h : 1100 < n ∨ 1100 < m ∨ 100 < o) :
    Calls Try.prog 8 #[.slice p n c, .slice q m d, .slice r o g, .int .i64 x] w fun e w' => e = .returned (.bool true) ∧ Below w.heap.size w w' := by
  by_cases h1 : 1100 < n
  · clear h
    go_enter Try.func8, Try.ntmps8
    go_wp2_with (go_at_call 12; refine (alive_any _).mono ?_; rintro e w1 ⟨rfl, hb⟩)
    go_ret
    exact ⟨rfl, hb⟩
  · by_cases h2 : 1100 < m
    · clear h
      go_enter Try.func8, Try.ntmps8
      go_wp2_with (go_at_call 12; refine (alive_any _).mono ?_; rintro e w1 ⟨rfl, hb⟩)
      go_ret
      exact ⟨rfl, hb⟩
    · have h3 : 100 < o := by omega
      clear h
      go_enter Try.func8, Try.ntmps8
      go_wp2_with (go_at_call 12; refine (alive_any _).mono ?_; rintro e w1 ⟨rfl, hb⟩)
      go_ret
      exact ⟨rfl, hb⟩

theorem packSets_walk (p : Option Addr) (n c : Nat) (L : List Nat) (q : Option Addr) (m d : Nat) (M : List Nat) (r : Option Addr) (o g : Nat) (l : List Int) (x : Int) (w : World) (hn : n ≤ 9223372036854775807) (hX : In mkW w p n c L) (LW : ∀ x ∈ L, x < 18446744073709551616) (hm : m ≤ 9223372036854775807) (hY : In mkW w q m d M) (MW : ∀ x ∈ M, x < 18446744073709551616) (ho : o ≤ 9223372036854775807) (hL : In mkI w r o g l) (_ : ∀ x ∈ l, -9223372036854775808 ≤ x ∧ x ≤ 9223372036854775807) (_ : (Lit.int IntKind.i64 x).wf = true) :
    Calls Try.prog 8 #[.slice p n c, .slice q m d, .slice r o g, .int .i64 x] w fun e w' => e = .returned (.bool true) ∧ Below w.heap.size w w' := by
  by_cases h : 1100 < n ∨ 1100 < m ∨ 100 < o
  · exact packSets_long p q r n c m d o g x w hn hm ho h
  · exact packSets_short p q r n c m d o g L l (memW L) (memW M) x w ⟨L, hX, LW, by omega, fun _ _ => rfl⟩ ⟨M, hY, MW, by omega, fun _ _ => rfl⟩ hX hL (by omega) (by omega) (by omega)
end Go.Proofs.Ytlfnefgcndhomaa
