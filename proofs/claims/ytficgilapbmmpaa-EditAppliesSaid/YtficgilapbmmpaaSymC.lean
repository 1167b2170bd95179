/-
  symMerge: two neighbouring parts of a row, each in order, are put in order together.
-/
import Derived.Test.YtficgilapbmmpaaSeek
namespace Go.Proofs.Ytficgilapbmmpaa
open Go.RowKit
set_option linter.unusedVariables false

/-- symMerge does as it should on parts of at most k edits together. -/
def SymOk (k : Nat) : Prop := ∀ (w : World) (g a m b n cap : Nat) (P A B Q : List Ed), Arr w g (P ++ (A ++ (B ++ Q))) → n = (P ++ (A ++ (B ++ Q))).length → n ≤ cap → n ≤ 60 → a = P.length → m = P.length + A.length → b = P.length + A.length + B.length → InOrder A → InOrder B → 1 ≤ A.length → 1 ≤ B.length → A.length + B.length ≤ k →
    Calls Try.prog 49 #[.slice (some ⟨g, 0, none⟩) n cap, .int .i64 a, .int .i64 m, .int .i64 b, .func (Fn.func 33) #[] #[]] w fun e w' => SortPost w g (P ++ (ssort (A ++ B) ++ Q)) e w'

/-- The row's four parts, and where they lie. -/
structure Four (P A1 A2 B1 B2 Q : List Ed) (a m b n mid st en k : Nat) : Prop where
  ha : P.length = a
  la1 : P.length + A1.length = st
  la2 : P.length + A1.length + A2.length = m
  lb1 : P.length + A1.length + A2.length + B1.length = en
  lb2 : P.length + A1.length + A2.length + B1.length + B2.length = b
  lm : P.length + A1.length + B1.length = mid
  ln : P.length + A1.length + A2.length + B1.length + B2.length + Q.length = n
  lk : A1.length + A2.length + B1.length + B2.length ≤ k + 1
  l2 : 2 ≤ A1.length + A2.length
  l3 : 2 ≤ B1.length + B2.length
  o1 : InOrder A1
  o2 : InOrder A2
  o3 : InOrder B1
  o4 : InOrder B2

set_option maxRecDepth 100000 in
set_option maxHeartbeats 40000000 in
theorem sym_mid (k : Nat) (hs : SymOk k) (w : World) (g a m b n cap : Nat) (P A B Q : List Ed) (h : Arr w g (P ++ (A ++ (B ++ Q)))) (hn : n = (P ++ (A ++ (B ++ Q))).length) (hcap : n ≤ cap) (hm : n ≤ 60) (ha : a = P.length) (hmm : m = P.length + A.length) (hb : b = P.length + A.length + B.length) (hA : InOrder A) (hB : InOrder B) (hA1 : 2 ≤ A.length) (hB1 : 2 ≤ B.length) (hk : A.length + B.length ≤ k + 1) :
    Calls Try.prog 49 #[.slice (some ⟨g, 0, none⟩) n cap, .int .i64 a, .int .i64 m, .int .i64 b, .func (Fn.func 33) #[] #[]] w fun e w' => SortPost w g (P ++ (ssort (A ++ B) ++ Q)) e w' := by
  have hlen : n = P.length + A.length + B.length + Q.length := by rw [hn]; simp; omega
  have HS := Lib.hid hs
  have HARR := Lib.hid h
  have HA := Lib.hid ha
  have HM := Lib.hid hmm
  have HB := Lib.hid hb
  have HOA := Lib.hid hA
  have HOB := Lib.hid hB
  have HN0 := Lib.hid hn
  have HK := Lib.hid hk
  have HLEN := Lib.hid hlen
  have HA2 := Lib.hid hA1
  have HB2 := Lib.hid hB1
  have hma : ((m : Int) - a == 1) = false := by rw [beq_eq_false_iff_ne]; omega
  have hbm : ((b : Int) - m == 1) = false := by rw [beq_eq_false_iff_ne]; omega
  have hma2 : ¬ (m : Int) - a = 1 := by omega
  have hbm2 : ¬ (b : Int) - m = 1 := by omega
  have hbn : b ≤ n := by omega
  have ham : a < m := by omega
  have hmb : m < b := by omega
  clear hs h hn ha hmm hb hA hB hk hlen hA1 hB1
  obtain ⟨mid, hmid⟩ : ∃ mid, mid = (a + b) / 2 := ⟨_, rfl⟩
  obtain ⟨N, hN⟩ : ∃ N, N = mid + m := ⟨_, rfl⟩
  have hmidc : ((a : Int) + b) / 2 = ((mid : Nat) : Int) := by omega
  have hNc : (mid : Int) + m = ((N : Nat) : Int) := by omega
  have hN120 : N ≤ 120 := by omega
  have hNp : (N : Int) - 1 = ((N - 1 : Nat) : Int) := by omega
  have ham2 : a < mid := by omega
  have hmb2 : mid < b := by omega
  have HMID := Lib.hid hmid
  have HN := Lib.hid hN
  generalize hp : N - 1 = p at *
  have HP := Lib.hid hp
  have hp120 : p ≤ 120 := by omega
  obtain ⟨s, e, hse⟩ : ∃ s e, (mid < m ∧ s + b = N ∧ e = mid) ∨ (m ≤ mid ∧ s = a ∧ e = m) := by
    by_cases hx : mid < m
    · exact ⟨N - b, mid, Or.inl ⟨hx, by omega, rfl⟩⟩
    · exact ⟨a, m, Or.inr ⟨by omega, rfl, rfl⟩⟩
  have HSE := Lib.hid hse
  have has : a ≤ s := by omega
  have hem : e ≤ m := by omega
  have hse1 : s ≤ e := by omega
  have hNs : N ≤ s + b := by omega
  have hNe : m + e ≤ N := by omega
  have HSEEK : Hid (Seek w w g (P ++ (A ++ (B ++ Q))) N s e s e) := Lib.hid ⟨HARR.out, Or.inl rfl, Or.inl rfl, grown_same _ _⟩
  clear hmid hN hp
  rcases hse with ⟨q1, q2, q3⟩ | ⟨q1, q2, q3⟩
  · have hs0 : (N : Int) - b = ((s : Nat) : Int) := by omega
    go_enter Try.func49, Try.ntmps49
    go_wp2_with fail
    go_loopw [20, 21] (fun u v wr => ∃ (st r : Nat), u = .int .i64 st ∧ v = .int .i64 r ∧ s ≤ st ∧ st ≤ r ∧ r ≤ e ∧ Seek w wr g (P ++ (A ++ (B ++ Q))) N s e st r) (fun u v _ => (intOf v).toNat - (intOf u).toNat)
    case atStart => exact ⟨s, e, by first | rfl | (rw [q2]), by first | rfl | (rw [q3]), by omega, by omega, by omega, HSEEK.out⟩
    case round =>
      obtain ⟨st, r, rfl, rfl, hs1, hsr, hre, K⟩ := hrel
      clear HSEEK
      have KH := Lib.hid K
      by_cases hlt : st < r
      · obtain ⟨c, hc⟩ : ∃ c, c = (st + r) / 2 := ⟨_, rfl⟩
        have hc1 : st ≤ c := by omega
        have hc2 : c < r := by omega
        have hcc : ((st : Int) + r) / 2 = ((c : Nat) : Int) := by omega
        obtain ⟨pc, hpc⟩ : ∃ pc, pc = p - c := ⟨_, rfl⟩
        have hpn : N = p + 1 := by have := HP.out; omega
        have hpcc : (p : Int) - c = ((pc : Nat) : Int) := by omega
        have hwpc : IntKind.i64.wrap ((p : Int) - c) = ((pc : Nat) : Int) := by rw [IntWalk.i64_in _ (by omega)]; exact hpcc
        have hcn : c < n := by omega
        have hpcn : pc < n := by omega
        obtain ⟨x, hx⟩ : ∃ x, (P ++ (A ++ (B ++ Q)))[c]? = some x := ⟨_, List.getElem?_eq_getElem (by rw [← HN0.out]; exact hcn)⟩
        obtain ⟨y, hy⟩ : ∃ y, (P ++ (A ++ (B ++ Q)))[pc]? = some y := ⟨_, List.getElem?_eq_getElem (by rw [← HN0.out]; exact hpcn)⟩
        obtain ⟨e0, e1, e2⟩ := K.arr.at c x hx
        obtain ⟨f0, f1, f2⟩ := K.arr.at pc y hy
        have HX := Lib.hid hx
        have HY := Lib.hid hy
        have HPC := Lib.hid hpc
        have HPN := Lib.hid hpn
        have hgl : g < wr.heap.size := K.arr.lt
        clear hx hy hpc hpn K hc hpcc
        by_cases hl : ltE y x
        · have hd : decide (cmpE y x < 0) = true := decide_eq_true ((cmpE_lt y x).2 hl)
          go_wp2_with fail
          go_region_held3 (fun w' => w'.cell? ⟨g, pc * 3, none⟩ = some (.int .i64 y.a) ∧ w'.cell? ⟨g, pc * 3 + 1, none⟩ = some (.int .i64 y.e) ∧ w'.cell? ⟨g, pc * 3 + 2, none⟩ = some (.string y.t) ∧ w'.cell? ⟨g, c * 3, none⟩ = some (.int .i64 x.a) ∧ w'.cell? ⟨g, c * 3 + 1, none⟩ = some (.int .i64 x.e) ∧ w'.cell? ⟨g, c * 3 + 2, none⟩ = some (.string x.t))
            (first
              | go_keep
              | (go_split_ands
                 refine ⟨?_, ?_, ?_, ?_, ?_, ?_⟩ <;> (rw [hbp.cell (by simpa using hgl)]; assumption)))
            ((first
              | (go_at_call 33; refine (comes_any y x _).mono ?_; rintro e wp ⟨rfl, hbp⟩)))
          rename_i hS
          have HNX : Hid (Seek w wp g (P ++ (A ++ (B ++ Q))) N s e st c) := Lib.hid ⟨KH.out.arr.step (((Below.refl _ _).drew).trans hbp), KH.out.lo, Or.inr ⟨x, y, HX.out, by rw [show N - 1 - c = pc by have := HPC.out; have := HPN.out; omega]; exact HY.out, hl⟩, grown_trans KH.out.grown (grown_below (((Below.refl _ _).drew).trans hbp) _)⟩
          clear hS hbp e0 e1 e2 f0 f1 f2 KH
          go_wp2_with fail
          go_roundw
          case rel => exact ⟨st, c, rfl, rfl, by omega, by omega, by omega, HNX.out⟩
          case measure => simp [intOf]; omega
        · have hd : decide (cmpE y x < 0) = false := decide_eq_false (fun h => hl ((cmpE_lt y x).1 h))
          go_wp2_with fail
          go_region_held3 (fun w' => w'.cell? ⟨g, pc * 3, none⟩ = some (.int .i64 y.a) ∧ w'.cell? ⟨g, pc * 3 + 1, none⟩ = some (.int .i64 y.e) ∧ w'.cell? ⟨g, pc * 3 + 2, none⟩ = some (.string y.t) ∧ w'.cell? ⟨g, c * 3, none⟩ = some (.int .i64 x.a) ∧ w'.cell? ⟨g, c * 3 + 1, none⟩ = some (.int .i64 x.e) ∧ w'.cell? ⟨g, c * 3 + 2, none⟩ = some (.string x.t))
            (first
              | go_keep
              | (go_split_ands
                 refine ⟨?_, ?_, ?_, ?_, ?_, ?_⟩ <;> (rw [hbp.cell (by simpa using hgl)]; assumption)))
            ((first
              | (go_at_call 33; refine (comes_any y x _).mono ?_; rintro e wp ⟨rfl, hbp⟩)))
          rename_i hS
          have HNX : Hid (Seek w wp g (P ++ (A ++ (B ++ Q))) N s e (c + 1) r) := Lib.hid ⟨KH.out.arr.step (((Below.refl _ _).drew).trans hbp), Or.inr ⟨x, y, by rw [Nat.add_sub_cancel]; exact HX.out, by rw [show N - (c + 1) = pc by have := HPC.out; have := HPN.out; omega]; exact HY.out, hl⟩, KH.out.hi, grown_trans KH.out.grown (grown_below (((Below.refl _ _).drew).trans hbp) _)⟩
          clear hS hbp e0 e1 e2 f0 f1 f2 KH
          go_wp2_with fail
          go_roundw
          case rel => exact ⟨c + 1, r, by go_num, rfl, by omega, by omega, by omega, HNX.out⟩
          case measure => simp [intOf]; omega
      · have hrr : r = st := by omega
        subst hrr
        obtain ⟨A1, A2, B1, B2, rfl, rfl, lA1, lB1, h1, h2⟩ := seek_fin rfl HA.out HM.out HB.out HN.out HMID.out HSE.out HOA.out HOB.out hs1 hre K.lo K.hi
        have HSORT := Lib.hid (ssort_sym HOA.out HOB.out h1 h2)
        have AR0 : Hid (Arr wr g (P ++ (A1 ++ (A2 ++ (B1 ++ (B2 ++ Q)))))) := Lib.hid (by have := K.arr; simpa using this)
        have GR0 := Lib.hid K.grown
        obtain ⟨en, hen⟩ : ∃ en, en = N - r := ⟨_, rfl⟩
        have F4 : Hid (Four P A1 A2 B1 B2 Q a m b n mid r en k) := by
          have g1 := HA.out
          have g2 := HM.out
          have g3 := HB.out
          have g4 := HLEN.out
          have g5 := HN.out
          have g6 := HK.out
          have g7 := HA2.out
          have g8 := HB2.out
          simp only [List.length_append] at g2 g3 g4 g6 g7 g8
          exact Lib.hid ⟨by omega, by omega, by omega, by omega, by omega, by omega, by omega, by omega, by omega, by omega, (order_split HOA.out).1, (order_split HOA.out).2.1, (order_split HOB.out).1, (order_split HOB.out).2.1⟩
        have henc : (N : Int) - r = ((en : Nat) : Int) := by omega
        have hen60 : en ≤ n := by have := F4.out.lb1; have := F4.out.ln; omega
        clear hen h1 h2 lA1 lB1 K KH HA HM HB HSE HOA HOB HN0 HK HLEN HA2 HB2 HN HP HMID HARR q1 q2 q3 hs0
        generalize r = st at *
        by_cases c1 : st < m
        · by_cases c2 : m < en
          · go_wp2_with fail
            refine (rotate_any _ g st m en n cap (P ++ A1) A2 B1 (B2 ++ Q) (by simpa using AR0.out) (by have := F4.out.ln; simp; omega) hcap hm (by have := F4.out.la1; simp; omega) (by have := F4.out.la2; simp; omega) (by have := F4.out.lb1; simp; omega) (by have := F4.out.la1; have := F4.out.la2; omega) (by have := F4.out.la2; have := F4.out.lb1; omega)).mono ?_
            rintro e1 w1 ⟨rfl, arr1, gr1⟩
            have AR1 : Hid (Arr w1 g (P ++ (A1 ++ (B1 ++ (A2 ++ (B2 ++ Q)))))) := Lib.hid (by simpa using arr1)
            have GR1 := Lib.hid (grown_trans GR0.out gr1)
            clear arr1 gr1 AR0 GR0
            by_cases c3 : a < st
            · by_cases c4 : st < mid
              · go_wp2_with fail
                refine (HS.out _ g a st mid n cap P A1 B1 (A2 ++ (B2 ++ Q)) AR1.out (by have := F4.out.ln; simp; omega) hcap hm F4.out.ha.symm F4.out.la1.symm F4.out.lm.symm F4.out.o1 F4.out.o3 (by have := F4.out.la1; have := F4.out.ha; omega) (by have := F4.out.la1; have := F4.out.lm; omega) (by have := F4.out.lk; have := F4.out.lb2; have := F4.out.lm; have := F4.out.ha; have := hmb2; omega)).mono ?_
                rintro e2 w2 ⟨rfl, arr2, gr2⟩
                have AR2 := Lib.hid arr2
                have GR2 := Lib.hid (grown_trans GR1.out gr2)
                clear arr2 gr2 AR1 GR1
                by_cases c5 : mid < en
                · by_cases c6 : en < b
                  · have r3 : mid < en ∧ en < b := ⟨c5, c6⟩
                    go_wp2_with fail
                    refine (HS.out _ g mid en b n cap (P ++ ssort (A1 ++ B1)) A2 B2 Q (by simpa using AR2.out) (by have := F4.out.ln; have := ssort_length (A1 ++ B1); simp at *; omega) hcap hm (by have := F4.out.lm; have := ssort_length (A1 ++ B1); simp at *; omega) (by have := F4.out.lm; have := F4.out.lb1; have := ssort_length (A1 ++ B1); simp at *; omega) (by have := F4.out.lm; have := F4.out.lb2; have := ssort_length (A1 ++ B1); simp at *; omega) F4.out.o2 F4.out.o4 (by have := F4.out.lm; have := F4.out.lb1; omega) (by have := F4.out.lb1; have := F4.out.lb2; omega) (by have := F4.out.lk; have := F4.out.lm; have := F4.out.la1; have := F4.out.ha; have := ham2; omega)).mono ?_
                    rintro e3 w3 ⟨rfl, arr3, gr3⟩
                    have AR3 : Hid (Arr w3 g (P ++ (ssort (A1 ++ A2 ++ (B1 ++ B2)) ++ Q))) := Lib.hid (by rw [← HSORT.out]; simpa using arr3)
                    have GR3 := Lib.hid (grown_trans GR2.out gr3)
                    clear arr3 gr3
                    go_wp2_with fail
                    go_end0
                    exact ⟨rfl, AR3.out, GR3.out⟩
                  · skip
                    have AR3 : Hid (Arr w2 g (P ++ (ssort (A1 ++ A2 ++ (B1 ++ B2)) ++ Q))) := Lib.hid (by
                      have hx := AR2.out
                      rw [← HSORT.out]
                      have hz : ssort (A2 ++ B2) = A2 ++ B2 := by
                        have : B2 = [] := List.eq_nil_of_length_eq_zero (by have := F4.out.lb1; have := F4.out.lb2; omega)
                        rw [this, List.append_nil]; exact ssort_fix F4.out.o2
                      rw [hz]
                      simpa using hx)
                    have GR3 := GR2
                    go_wp2_with fail
                    go_end0
                    exact ⟨rfl, AR3.out, GR3.out⟩
                · skip
                  have AR3 : Hid (Arr w2 g (P ++ (ssort (A1 ++ A2 ++ (B1 ++ B2)) ++ Q))) := Lib.hid (by
                    have hx := AR2.out
                    rw [← HSORT.out]
                    have hz : ssort (A2 ++ B2) = A2 ++ B2 := by
                      have : A2 = [] := List.eq_nil_of_length_eq_zero (by have := F4.out.lm; have := F4.out.lb1; omega)
                      rw [this, List.nil_append]; exact ssort_fix F4.out.o4
                    rw [hz]
                    simpa using hx)
                  have GR3 := GR2
                  go_wp2_with fail
                  go_end0
                  exact ⟨rfl, AR3.out, GR3.out⟩
              · have AR2 : Hid (Arr w1 g (P ++ (ssort (A1 ++ B1) ++ (A2 ++ (B2 ++ Q))))) := Lib.hid (by
                  have hx := AR1.out
                  have hz : ssort (A1 ++ B1) = A1 ++ B1 := by
                    have : B1 = [] := List.eq_nil_of_length_eq_zero (by have := F4.out.la1; have := F4.out.lm; omega)
                    rw [this, List.append_nil]; exact ssort_fix F4.out.o1
                  rw [hz]
                  simpa using hx)
                have GR2 := GR1
                clear AR1 GR1
                generalize w1 = w2 at *
                by_cases c5 : mid < en
                · by_cases c6 : en < b
                  · have r3 : mid < en ∧ en < b := ⟨c5, c6⟩
                    go_wp2_with fail
                    refine (HS.out _ g mid en b n cap (P ++ ssort (A1 ++ B1)) A2 B2 Q (by simpa using AR2.out) (by have := F4.out.ln; have := ssort_length (A1 ++ B1); simp at *; omega) hcap hm (by have := F4.out.lm; have := ssort_length (A1 ++ B1); simp at *; omega) (by have := F4.out.lm; have := F4.out.lb1; have := ssort_length (A1 ++ B1); simp at *; omega) (by have := F4.out.lm; have := F4.out.lb2; have := ssort_length (A1 ++ B1); simp at *; omega) F4.out.o2 F4.out.o4 (by have := F4.out.lm; have := F4.out.lb1; omega) (by have := F4.out.lb1; have := F4.out.lb2; omega) (by have := F4.out.lk; have := F4.out.lm; have := F4.out.la1; have := F4.out.ha; have := ham2; omega)).mono ?_
                    rintro e3 w3 ⟨rfl, arr3, gr3⟩
                    have AR3 : Hid (Arr w3 g (P ++ (ssort (A1 ++ A2 ++ (B1 ++ B2)) ++ Q))) := Lib.hid (by rw [← HSORT.out]; simpa using arr3)
                    have GR3 := Lib.hid (grown_trans GR2.out gr3)
                    clear arr3 gr3
                    go_wp2_with fail
                    go_end0
                    exact ⟨rfl, AR3.out, GR3.out⟩
                  · skip
                    have AR3 : Hid (Arr w2 g (P ++ (ssort (A1 ++ A2 ++ (B1 ++ B2)) ++ Q))) := Lib.hid (by
                      have hx := AR2.out
                      rw [← HSORT.out]
                      have hz : ssort (A2 ++ B2) = A2 ++ B2 := by
                        have : B2 = [] := List.eq_nil_of_length_eq_zero (by have := F4.out.lb1; have := F4.out.lb2; omega)
                        rw [this, List.append_nil]; exact ssort_fix F4.out.o2
                      rw [hz]
                      simpa using hx)
                    have GR3 := GR2
                    go_wp2_with fail
                    go_end0
                    exact ⟨rfl, AR3.out, GR3.out⟩
                · skip
                  have AR3 : Hid (Arr w2 g (P ++ (ssort (A1 ++ A2 ++ (B1 ++ B2)) ++ Q))) := Lib.hid (by
                    have hx := AR2.out
                    rw [← HSORT.out]
                    have hz : ssort (A2 ++ B2) = A2 ++ B2 := by
                      have : A2 = [] := List.eq_nil_of_length_eq_zero (by have := F4.out.lm; have := F4.out.lb1; omega)
                      rw [this, List.nil_append]; exact ssort_fix F4.out.o4
                    rw [hz]
                    simpa using hx)
                  have GR3 := GR2
                  go_wp2_with fail
                  go_end0
                  exact ⟨rfl, AR3.out, GR3.out⟩
            · have AR2 : Hid (Arr w1 g (P ++ (ssort (A1 ++ B1) ++ (A2 ++ (B2 ++ Q))))) := Lib.hid (by
                have hx := AR1.out
                have hz : ssort (A1 ++ B1) = A1 ++ B1 := by
                  have : A1 = [] := List.eq_nil_of_length_eq_zero (by have := F4.out.la1; have := F4.out.ha; omega)
                  rw [this, List.nil_append]; exact ssort_fix F4.out.o3
                rw [hz]
                simpa using hx)
              have GR2 := GR1
              clear AR1 GR1
              generalize w1 = w2 at *
              by_cases c5 : mid < en
              · by_cases c6 : en < b
                · have r3 : mid < en ∧ en < b := ⟨c5, c6⟩
                  go_wp2_with fail
                  refine (HS.out _ g mid en b n cap (P ++ ssort (A1 ++ B1)) A2 B2 Q (by simpa using AR2.out) (by have := F4.out.ln; have := ssort_length (A1 ++ B1); simp at *; omega) hcap hm (by have := F4.out.lm; have := ssort_length (A1 ++ B1); simp at *; omega) (by have := F4.out.lm; have := F4.out.lb1; have := ssort_length (A1 ++ B1); simp at *; omega) (by have := F4.out.lm; have := F4.out.lb2; have := ssort_length (A1 ++ B1); simp at *; omega) F4.out.o2 F4.out.o4 (by have := F4.out.lm; have := F4.out.lb1; omega) (by have := F4.out.lb1; have := F4.out.lb2; omega) (by have := F4.out.lk; have := F4.out.lm; have := F4.out.la1; have := F4.out.ha; have := ham2; omega)).mono ?_
                  rintro e3 w3 ⟨rfl, arr3, gr3⟩
                  have AR3 : Hid (Arr w3 g (P ++ (ssort (A1 ++ A2 ++ (B1 ++ B2)) ++ Q))) := Lib.hid (by rw [← HSORT.out]; simpa using arr3)
                  have GR3 := Lib.hid (grown_trans GR2.out gr3)
                  clear arr3 gr3
                  go_wp2_with fail
                  go_end0
                  exact ⟨rfl, AR3.out, GR3.out⟩
                · skip
                  have AR3 : Hid (Arr w2 g (P ++ (ssort (A1 ++ A2 ++ (B1 ++ B2)) ++ Q))) := Lib.hid (by
                    have hx := AR2.out
                    rw [← HSORT.out]
                    have hz : ssort (A2 ++ B2) = A2 ++ B2 := by
                      have : B2 = [] := List.eq_nil_of_length_eq_zero (by have := F4.out.lb1; have := F4.out.lb2; omega)
                      rw [this, List.append_nil]; exact ssort_fix F4.out.o2
                    rw [hz]
                    simpa using hx)
                  have GR3 := GR2
                  go_wp2_with fail
                  go_end0
                  exact ⟨rfl, AR3.out, GR3.out⟩
              · skip
                have AR3 : Hid (Arr w2 g (P ++ (ssort (A1 ++ A2 ++ (B1 ++ B2)) ++ Q))) := Lib.hid (by
                  have hx := AR2.out
                  rw [← HSORT.out]
                  have hz : ssort (A2 ++ B2) = A2 ++ B2 := by
                    have : A2 = [] := List.eq_nil_of_length_eq_zero (by have := F4.out.lm; have := F4.out.lb1; omega)
                    rw [this, List.nil_append]; exact ssort_fix F4.out.o4
                  rw [hz]
                  simpa using hx)
                have GR3 := GR2
                go_wp2_with fail
                go_end0
                exact ⟨rfl, AR3.out, GR3.out⟩
          · have AR1 : Hid (Arr wr g (P ++ (A1 ++ (B1 ++ (A2 ++ (B2 ++ Q)))))) := Lib.hid (by
              have hx := AR0.out
              have hz : B1 = [] := List.eq_nil_of_length_eq_zero (by have := F4.out.la2; have := F4.out.lb1; omega)
              rw [hz] at hx ⊢
              simpa using hx)
            have GR1 := GR0
            clear AR0 GR0
            generalize wr = w1 at *
            by_cases c3 : a < st
            · by_cases c4 : st < mid
              · go_wp2_with fail
                refine (HS.out _ g a st mid n cap P A1 B1 (A2 ++ (B2 ++ Q)) AR1.out (by have := F4.out.ln; simp; omega) hcap hm F4.out.ha.symm F4.out.la1.symm F4.out.lm.symm F4.out.o1 F4.out.o3 (by have := F4.out.la1; have := F4.out.ha; omega) (by have := F4.out.la1; have := F4.out.lm; omega) (by have := F4.out.lk; have := F4.out.lb2; have := F4.out.lm; have := F4.out.ha; have := hmb2; omega)).mono ?_
                rintro e2 w2 ⟨rfl, arr2, gr2⟩
                have AR2 := Lib.hid arr2
                have GR2 := Lib.hid (grown_trans GR1.out gr2)
                clear arr2 gr2 AR1 GR1
                by_cases c5 : mid < en
                · by_cases c6 : en < b
                  · have r3 : mid < en ∧ en < b := ⟨c5, c6⟩
                    go_wp2_with fail
                    refine (HS.out _ g mid en b n cap (P ++ ssort (A1 ++ B1)) A2 B2 Q (by simpa using AR2.out) (by have := F4.out.ln; have := ssort_length (A1 ++ B1); simp at *; omega) hcap hm (by have := F4.out.lm; have := ssort_length (A1 ++ B1); simp at *; omega) (by have := F4.out.lm; have := F4.out.lb1; have := ssort_length (A1 ++ B1); simp at *; omega) (by have := F4.out.lm; have := F4.out.lb2; have := ssort_length (A1 ++ B1); simp at *; omega) F4.out.o2 F4.out.o4 (by have := F4.out.lm; have := F4.out.lb1; omega) (by have := F4.out.lb1; have := F4.out.lb2; omega) (by have := F4.out.lk; have := F4.out.lm; have := F4.out.la1; have := F4.out.ha; have := ham2; omega)).mono ?_
                    rintro e3 w3 ⟨rfl, arr3, gr3⟩
                    have AR3 : Hid (Arr w3 g (P ++ (ssort (A1 ++ A2 ++ (B1 ++ B2)) ++ Q))) := Lib.hid (by rw [← HSORT.out]; simpa using arr3)
                    have GR3 := Lib.hid (grown_trans GR2.out gr3)
                    clear arr3 gr3
                    go_wp2_with fail
                    go_end0
                    exact ⟨rfl, AR3.out, GR3.out⟩
                  · skip
                    have AR3 : Hid (Arr w2 g (P ++ (ssort (A1 ++ A2 ++ (B1 ++ B2)) ++ Q))) := Lib.hid (by
                      have hx := AR2.out
                      rw [← HSORT.out]
                      have hz : ssort (A2 ++ B2) = A2 ++ B2 := by
                        have : B2 = [] := List.eq_nil_of_length_eq_zero (by have := F4.out.lb1; have := F4.out.lb2; omega)
                        rw [this, List.append_nil]; exact ssort_fix F4.out.o2
                      rw [hz]
                      simpa using hx)
                    have GR3 := GR2
                    go_wp2_with fail
                    go_end0
                    exact ⟨rfl, AR3.out, GR3.out⟩
                · skip
                  have AR3 : Hid (Arr w2 g (P ++ (ssort (A1 ++ A2 ++ (B1 ++ B2)) ++ Q))) := Lib.hid (by
                    have hx := AR2.out
                    rw [← HSORT.out]
                    have hz : ssort (A2 ++ B2) = A2 ++ B2 := by
                      have : A2 = [] := List.eq_nil_of_length_eq_zero (by have := F4.out.lm; have := F4.out.lb1; omega)
                      rw [this, List.nil_append]; exact ssort_fix F4.out.o4
                    rw [hz]
                    simpa using hx)
                  have GR3 := GR2
                  go_wp2_with fail
                  go_end0
                  exact ⟨rfl, AR3.out, GR3.out⟩
              · have AR2 : Hid (Arr w1 g (P ++ (ssort (A1 ++ B1) ++ (A2 ++ (B2 ++ Q))))) := Lib.hid (by
                  have hx := AR1.out
                  have hz : ssort (A1 ++ B1) = A1 ++ B1 := by
                    have : B1 = [] := List.eq_nil_of_length_eq_zero (by have := F4.out.la1; have := F4.out.lm; omega)
                    rw [this, List.append_nil]; exact ssort_fix F4.out.o1
                  rw [hz]
                  simpa using hx)
                have GR2 := GR1
                clear AR1 GR1
                generalize w1 = w2 at *
                by_cases c5 : mid < en
                · by_cases c6 : en < b
                  · have r3 : mid < en ∧ en < b := ⟨c5, c6⟩
                    go_wp2_with fail
                    refine (HS.out _ g mid en b n cap (P ++ ssort (A1 ++ B1)) A2 B2 Q (by simpa using AR2.out) (by have := F4.out.ln; have := ssort_length (A1 ++ B1); simp at *; omega) hcap hm (by have := F4.out.lm; have := ssort_length (A1 ++ B1); simp at *; omega) (by have := F4.out.lm; have := F4.out.lb1; have := ssort_length (A1 ++ B1); simp at *; omega) (by have := F4.out.lm; have := F4.out.lb2; have := ssort_length (A1 ++ B1); simp at *; omega) F4.out.o2 F4.out.o4 (by have := F4.out.lm; have := F4.out.lb1; omega) (by have := F4.out.lb1; have := F4.out.lb2; omega) (by have := F4.out.lk; have := F4.out.lm; have := F4.out.la1; have := F4.out.ha; have := ham2; omega)).mono ?_
                    rintro e3 w3 ⟨rfl, arr3, gr3⟩
                    have AR3 : Hid (Arr w3 g (P ++ (ssort (A1 ++ A2 ++ (B1 ++ B2)) ++ Q))) := Lib.hid (by rw [← HSORT.out]; simpa using arr3)
                    have GR3 := Lib.hid (grown_trans GR2.out gr3)
                    clear arr3 gr3
                    go_wp2_with fail
                    go_end0
                    exact ⟨rfl, AR3.out, GR3.out⟩
                  · skip
                    have AR3 : Hid (Arr w2 g (P ++ (ssort (A1 ++ A2 ++ (B1 ++ B2)) ++ Q))) := Lib.hid (by
                      have hx := AR2.out
                      rw [← HSORT.out]
                      have hz : ssort (A2 ++ B2) = A2 ++ B2 := by
                        have : B2 = [] := List.eq_nil_of_length_eq_zero (by have := F4.out.lb1; have := F4.out.lb2; omega)
                        rw [this, List.append_nil]; exact ssort_fix F4.out.o2
                      rw [hz]
                      simpa using hx)
                    have GR3 := GR2
                    go_wp2_with fail
                    go_end0
                    exact ⟨rfl, AR3.out, GR3.out⟩
                · skip
                  have AR3 : Hid (Arr w2 g (P ++ (ssort (A1 ++ A2 ++ (B1 ++ B2)) ++ Q))) := Lib.hid (by
                    have hx := AR2.out
                    rw [← HSORT.out]
                    have hz : ssort (A2 ++ B2) = A2 ++ B2 := by
                      have : A2 = [] := List.eq_nil_of_length_eq_zero (by have := F4.out.lm; have := F4.out.lb1; omega)
                      rw [this, List.nil_append]; exact ssort_fix F4.out.o4
                    rw [hz]
                    simpa using hx)
                  have GR3 := GR2
                  go_wp2_with fail
                  go_end0
                  exact ⟨rfl, AR3.out, GR3.out⟩
            · have AR2 : Hid (Arr w1 g (P ++ (ssort (A1 ++ B1) ++ (A2 ++ (B2 ++ Q))))) := Lib.hid (by
                have hx := AR1.out
                have hz : ssort (A1 ++ B1) = A1 ++ B1 := by
                  have : A1 = [] := List.eq_nil_of_length_eq_zero (by have := F4.out.la1; have := F4.out.ha; omega)
                  rw [this, List.nil_append]; exact ssort_fix F4.out.o3
                rw [hz]
                simpa using hx)
              have GR2 := GR1
              clear AR1 GR1
              generalize w1 = w2 at *
              by_cases c5 : mid < en
              · by_cases c6 : en < b
                · have r3 : mid < en ∧ en < b := ⟨c5, c6⟩
                  go_wp2_with fail
                  refine (HS.out _ g mid en b n cap (P ++ ssort (A1 ++ B1)) A2 B2 Q (by simpa using AR2.out) (by have := F4.out.ln; have := ssort_length (A1 ++ B1); simp at *; omega) hcap hm (by have := F4.out.lm; have := ssort_length (A1 ++ B1); simp at *; omega) (by have := F4.out.lm; have := F4.out.lb1; have := ssort_length (A1 ++ B1); simp at *; omega) (by have := F4.out.lm; have := F4.out.lb2; have := ssort_length (A1 ++ B1); simp at *; omega) F4.out.o2 F4.out.o4 (by have := F4.out.lm; have := F4.out.lb1; omega) (by have := F4.out.lb1; have := F4.out.lb2; omega) (by have := F4.out.lk; have := F4.out.lm; have := F4.out.la1; have := F4.out.ha; have := ham2; omega)).mono ?_
                  rintro e3 w3 ⟨rfl, arr3, gr3⟩
                  have AR3 : Hid (Arr w3 g (P ++ (ssort (A1 ++ A2 ++ (B1 ++ B2)) ++ Q))) := Lib.hid (by rw [← HSORT.out]; simpa using arr3)
                  have GR3 := Lib.hid (grown_trans GR2.out gr3)
                  clear arr3 gr3
                  go_wp2_with fail
                  go_end0
                  exact ⟨rfl, AR3.out, GR3.out⟩
                · skip
                  have AR3 : Hid (Arr w2 g (P ++ (ssort (A1 ++ A2 ++ (B1 ++ B2)) ++ Q))) := Lib.hid (by
                    have hx := AR2.out
                    rw [← HSORT.out]
                    have hz : ssort (A2 ++ B2) = A2 ++ B2 := by
                      have : B2 = [] := List.eq_nil_of_length_eq_zero (by have := F4.out.lb1; have := F4.out.lb2; omega)
                      rw [this, List.append_nil]; exact ssort_fix F4.out.o2
                    rw [hz]
                    simpa using hx)
                  have GR3 := GR2
                  go_wp2_with fail
                  go_end0
                  exact ⟨rfl, AR3.out, GR3.out⟩
              · skip
                have AR3 : Hid (Arr w2 g (P ++ (ssort (A1 ++ A2 ++ (B1 ++ B2)) ++ Q))) := Lib.hid (by
                  have hx := AR2.out
                  rw [← HSORT.out]
                  have hz : ssort (A2 ++ B2) = A2 ++ B2 := by
                    have : A2 = [] := List.eq_nil_of_length_eq_zero (by have := F4.out.lm; have := F4.out.lb1; omega)
                    rw [this, List.nil_append]; exact ssort_fix F4.out.o4
                  rw [hz]
                  simpa using hx)
                have GR3 := GR2
                go_wp2_with fail
                go_end0
                exact ⟨rfl, AR3.out, GR3.out⟩
        · have AR1 : Hid (Arr wr g (P ++ (A1 ++ (B1 ++ (A2 ++ (B2 ++ Q)))))) := Lib.hid (by
            have hx := AR0.out
            have hz : A2 = [] := List.eq_nil_of_length_eq_zero (by have := F4.out.la1; have := F4.out.la2; omega)
            rw [hz] at hx ⊢
            simpa using hx)
          have GR1 := GR0
          clear AR0 GR0
          generalize wr = w1 at *
          by_cases c3 : a < st
          · by_cases c4 : st < mid
            · go_wp2_with fail
              refine (HS.out _ g a st mid n cap P A1 B1 (A2 ++ (B2 ++ Q)) AR1.out (by have := F4.out.ln; simp; omega) hcap hm F4.out.ha.symm F4.out.la1.symm F4.out.lm.symm F4.out.o1 F4.out.o3 (by have := F4.out.la1; have := F4.out.ha; omega) (by have := F4.out.la1; have := F4.out.lm; omega) (by have := F4.out.lk; have := F4.out.lb2; have := F4.out.lm; have := F4.out.ha; have := hmb2; omega)).mono ?_
              rintro e2 w2 ⟨rfl, arr2, gr2⟩
              have AR2 := Lib.hid arr2
              have GR2 := Lib.hid (grown_trans GR1.out gr2)
              clear arr2 gr2 AR1 GR1
              by_cases c5 : mid < en
              · by_cases c6 : en < b
                · have r3 : mid < en ∧ en < b := ⟨c5, c6⟩
                  go_wp2_with fail
                  refine (HS.out _ g mid en b n cap (P ++ ssort (A1 ++ B1)) A2 B2 Q (by simpa using AR2.out) (by have := F4.out.ln; have := ssort_length (A1 ++ B1); simp at *; omega) hcap hm (by have := F4.out.lm; have := ssort_length (A1 ++ B1); simp at *; omega) (by have := F4.out.lm; have := F4.out.lb1; have := ssort_length (A1 ++ B1); simp at *; omega) (by have := F4.out.lm; have := F4.out.lb2; have := ssort_length (A1 ++ B1); simp at *; omega) F4.out.o2 F4.out.o4 (by have := F4.out.lm; have := F4.out.lb1; omega) (by have := F4.out.lb1; have := F4.out.lb2; omega) (by have := F4.out.lk; have := F4.out.lm; have := F4.out.la1; have := F4.out.ha; have := ham2; omega)).mono ?_
                  rintro e3 w3 ⟨rfl, arr3, gr3⟩
                  have AR3 : Hid (Arr w3 g (P ++ (ssort (A1 ++ A2 ++ (B1 ++ B2)) ++ Q))) := Lib.hid (by rw [← HSORT.out]; simpa using arr3)
                  have GR3 := Lib.hid (grown_trans GR2.out gr3)
                  clear arr3 gr3
                  go_wp2_with fail
                  go_end0
                  exact ⟨rfl, AR3.out, GR3.out⟩
                · skip
                  have AR3 : Hid (Arr w2 g (P ++ (ssort (A1 ++ A2 ++ (B1 ++ B2)) ++ Q))) := Lib.hid (by
                    have hx := AR2.out
                    rw [← HSORT.out]
                    have hz : ssort (A2 ++ B2) = A2 ++ B2 := by
                      have : B2 = [] := List.eq_nil_of_length_eq_zero (by have := F4.out.lb1; have := F4.out.lb2; omega)
                      rw [this, List.append_nil]; exact ssort_fix F4.out.o2
                    rw [hz]
                    simpa using hx)
                  have GR3 := GR2
                  go_wp2_with fail
                  go_end0
                  exact ⟨rfl, AR3.out, GR3.out⟩
              · skip
                have AR3 : Hid (Arr w2 g (P ++ (ssort (A1 ++ A2 ++ (B1 ++ B2)) ++ Q))) := Lib.hid (by
                  have hx := AR2.out
                  rw [← HSORT.out]
                  have hz : ssort (A2 ++ B2) = A2 ++ B2 := by
                    have : A2 = [] := List.eq_nil_of_length_eq_zero (by have := F4.out.lm; have := F4.out.lb1; omega)
                    rw [this, List.nil_append]; exact ssort_fix F4.out.o4
                  rw [hz]
                  simpa using hx)
                have GR3 := GR2
                go_wp2_with fail
                go_end0
                exact ⟨rfl, AR3.out, GR3.out⟩
            · have AR2 : Hid (Arr w1 g (P ++ (ssort (A1 ++ B1) ++ (A2 ++ (B2 ++ Q))))) := Lib.hid (by
                have hx := AR1.out
                have hz : ssort (A1 ++ B1) = A1 ++ B1 := by
                  have : B1 = [] := List.eq_nil_of_length_eq_zero (by have := F4.out.la1; have := F4.out.lm; omega)
                  rw [this, List.append_nil]; exact ssort_fix F4.out.o1
                rw [hz]
                simpa using hx)
              have GR2 := GR1
              clear AR1 GR1
              generalize w1 = w2 at *
              by_cases c5 : mid < en
              · by_cases c6 : en < b
                · have r3 : mid < en ∧ en < b := ⟨c5, c6⟩
                  go_wp2_with fail
                  refine (HS.out _ g mid en b n cap (P ++ ssort (A1 ++ B1)) A2 B2 Q (by simpa using AR2.out) (by have := F4.out.ln; have := ssort_length (A1 ++ B1); simp at *; omega) hcap hm (by have := F4.out.lm; have := ssort_length (A1 ++ B1); simp at *; omega) (by have := F4.out.lm; have := F4.out.lb1; have := ssort_length (A1 ++ B1); simp at *; omega) (by have := F4.out.lm; have := F4.out.lb2; have := ssort_length (A1 ++ B1); simp at *; omega) F4.out.o2 F4.out.o4 (by have := F4.out.lm; have := F4.out.lb1; omega) (by have := F4.out.lb1; have := F4.out.lb2; omega) (by have := F4.out.lk; have := F4.out.lm; have := F4.out.la1; have := F4.out.ha; have := ham2; omega)).mono ?_
                  rintro e3 w3 ⟨rfl, arr3, gr3⟩
                  have AR3 : Hid (Arr w3 g (P ++ (ssort (A1 ++ A2 ++ (B1 ++ B2)) ++ Q))) := Lib.hid (by rw [← HSORT.out]; simpa using arr3)
                  have GR3 := Lib.hid (grown_trans GR2.out gr3)
                  clear arr3 gr3
                  go_wp2_with fail
                  go_end0
                  exact ⟨rfl, AR3.out, GR3.out⟩
                · skip
                  have AR3 : Hid (Arr w2 g (P ++ (ssort (A1 ++ A2 ++ (B1 ++ B2)) ++ Q))) := Lib.hid (by
                    have hx := AR2.out
                    rw [← HSORT.out]
                    have hz : ssort (A2 ++ B2) = A2 ++ B2 := by
                      have : B2 = [] := List.eq_nil_of_length_eq_zero (by have := F4.out.lb1; have := F4.out.lb2; omega)
                      rw [this, List.append_nil]; exact ssort_fix F4.out.o2
                    rw [hz]
                    simpa using hx)
                  have GR3 := GR2
                  go_wp2_with fail
                  go_end0
                  exact ⟨rfl, AR3.out, GR3.out⟩
              · skip
                have AR3 : Hid (Arr w2 g (P ++ (ssort (A1 ++ A2 ++ (B1 ++ B2)) ++ Q))) := Lib.hid (by
                  have hx := AR2.out
                  rw [← HSORT.out]
                  have hz : ssort (A2 ++ B2) = A2 ++ B2 := by
                    have : A2 = [] := List.eq_nil_of_length_eq_zero (by have := F4.out.lm; have := F4.out.lb1; omega)
                    rw [this, List.nil_append]; exact ssort_fix F4.out.o4
                  rw [hz]
                  simpa using hx)
                have GR3 := GR2
                go_wp2_with fail
                go_end0
                exact ⟨rfl, AR3.out, GR3.out⟩
          · have AR2 : Hid (Arr w1 g (P ++ (ssort (A1 ++ B1) ++ (A2 ++ (B2 ++ Q))))) := Lib.hid (by
              have hx := AR1.out
              have hz : ssort (A1 ++ B1) = A1 ++ B1 := by
                have : A1 = [] := List.eq_nil_of_length_eq_zero (by have := F4.out.la1; have := F4.out.ha; omega)
                rw [this, List.nil_append]; exact ssort_fix F4.out.o3
              rw [hz]
              simpa using hx)
            have GR2 := GR1
            clear AR1 GR1
            generalize w1 = w2 at *
            by_cases c5 : mid < en
            · by_cases c6 : en < b
              · have r3 : mid < en ∧ en < b := ⟨c5, c6⟩
                go_wp2_with fail
                refine (HS.out _ g mid en b n cap (P ++ ssort (A1 ++ B1)) A2 B2 Q (by simpa using AR2.out) (by have := F4.out.ln; have := ssort_length (A1 ++ B1); simp at *; omega) hcap hm (by have := F4.out.lm; have := ssort_length (A1 ++ B1); simp at *; omega) (by have := F4.out.lm; have := F4.out.lb1; have := ssort_length (A1 ++ B1); simp at *; omega) (by have := F4.out.lm; have := F4.out.lb2; have := ssort_length (A1 ++ B1); simp at *; omega) F4.out.o2 F4.out.o4 (by have := F4.out.lm; have := F4.out.lb1; omega) (by have := F4.out.lb1; have := F4.out.lb2; omega) (by have := F4.out.lk; have := F4.out.lm; have := F4.out.la1; have := F4.out.ha; have := ham2; omega)).mono ?_
                rintro e3 w3 ⟨rfl, arr3, gr3⟩
                have AR3 : Hid (Arr w3 g (P ++ (ssort (A1 ++ A2 ++ (B1 ++ B2)) ++ Q))) := Lib.hid (by rw [← HSORT.out]; simpa using arr3)
                have GR3 := Lib.hid (grown_trans GR2.out gr3)
                clear arr3 gr3
                go_wp2_with fail
                go_end0
                exact ⟨rfl, AR3.out, GR3.out⟩
              · skip
                have AR3 : Hid (Arr w2 g (P ++ (ssort (A1 ++ A2 ++ (B1 ++ B2)) ++ Q))) := Lib.hid (by
                  have hx := AR2.out
                  rw [← HSORT.out]
                  have hz : ssort (A2 ++ B2) = A2 ++ B2 := by
                    have : B2 = [] := List.eq_nil_of_length_eq_zero (by have := F4.out.lb1; have := F4.out.lb2; omega)
                    rw [this, List.append_nil]; exact ssort_fix F4.out.o2
                  rw [hz]
                  simpa using hx)
                have GR3 := GR2
                go_wp2_with fail
                go_end0
                exact ⟨rfl, AR3.out, GR3.out⟩
            · skip
              have AR3 : Hid (Arr w2 g (P ++ (ssort (A1 ++ A2 ++ (B1 ++ B2)) ++ Q))) := Lib.hid (by
                have hx := AR2.out
                rw [← HSORT.out]
                have hz : ssort (A2 ++ B2) = A2 ++ B2 := by
                  have : A2 = [] := List.eq_nil_of_length_eq_zero (by have := F4.out.lm; have := F4.out.lb1; omega)
                  rw [this, List.nil_append]; exact ssort_fix F4.out.o4
                rw [hz]
                simpa using hx)
              have GR3 := GR2
              go_wp2_with fail
              go_end0
              exact ⟨rfl, AR3.out, GR3.out⟩
  · have hs0 : decide (mid < m) = false := decide_eq_false (by omega)
    go_enter Try.func49, Try.ntmps49
    go_wp2_with fail
    go_loopw [20, 21] (fun u v wr => ∃ (st r : Nat), u = .int .i64 st ∧ v = .int .i64 r ∧ s ≤ st ∧ st ≤ r ∧ r ≤ e ∧ Seek w wr g (P ++ (A ++ (B ++ Q))) N s e st r) (fun u v _ => (intOf v).toNat - (intOf u).toNat)
    case atStart => exact ⟨s, e, by first | rfl | (rw [q2]), by first | rfl | (rw [q3]), by omega, by omega, by omega, HSEEK.out⟩
    case round =>
      obtain ⟨st, r, rfl, rfl, hs1, hsr, hre, K⟩ := hrel
      clear HSEEK
      have KH := Lib.hid K
      by_cases hlt : st < r
      · obtain ⟨c, hc⟩ : ∃ c, c = (st + r) / 2 := ⟨_, rfl⟩
        have hc1 : st ≤ c := by omega
        have hc2 : c < r := by omega
        have hcc : ((st : Int) + r) / 2 = ((c : Nat) : Int) := by omega
        obtain ⟨pc, hpc⟩ : ∃ pc, pc = p - c := ⟨_, rfl⟩
        have hpn : N = p + 1 := by have := HP.out; omega
        have hpcc : (p : Int) - c = ((pc : Nat) : Int) := by omega
        have hwpc : IntKind.i64.wrap ((p : Int) - c) = ((pc : Nat) : Int) := by rw [IntWalk.i64_in _ (by omega)]; exact hpcc
        have hcn : c < n := by omega
        have hpcn : pc < n := by omega
        obtain ⟨x, hx⟩ : ∃ x, (P ++ (A ++ (B ++ Q)))[c]? = some x := ⟨_, List.getElem?_eq_getElem (by rw [← HN0.out]; exact hcn)⟩
        obtain ⟨y, hy⟩ : ∃ y, (P ++ (A ++ (B ++ Q)))[pc]? = some y := ⟨_, List.getElem?_eq_getElem (by rw [← HN0.out]; exact hpcn)⟩
        obtain ⟨e0, e1, e2⟩ := K.arr.at c x hx
        obtain ⟨f0, f1, f2⟩ := K.arr.at pc y hy
        have HX := Lib.hid hx
        have HY := Lib.hid hy
        have HPC := Lib.hid hpc
        have HPN := Lib.hid hpn
        have hgl : g < wr.heap.size := K.arr.lt
        clear hx hy hpc hpn K hc hpcc
        by_cases hl : ltE y x
        · have hd : decide (cmpE y x < 0) = true := decide_eq_true ((cmpE_lt y x).2 hl)
          go_wp2_with fail
          go_region_held3 (fun w' => w'.cell? ⟨g, pc * 3, none⟩ = some (.int .i64 y.a) ∧ w'.cell? ⟨g, pc * 3 + 1, none⟩ = some (.int .i64 y.e) ∧ w'.cell? ⟨g, pc * 3 + 2, none⟩ = some (.string y.t) ∧ w'.cell? ⟨g, c * 3, none⟩ = some (.int .i64 x.a) ∧ w'.cell? ⟨g, c * 3 + 1, none⟩ = some (.int .i64 x.e) ∧ w'.cell? ⟨g, c * 3 + 2, none⟩ = some (.string x.t))
            (first
              | go_keep
              | (go_split_ands
                 refine ⟨?_, ?_, ?_, ?_, ?_, ?_⟩ <;> (rw [hbp.cell (by simpa using hgl)]; assumption)))
            ((first
              | (go_at_call 33; refine (comes_any y x _).mono ?_; rintro e wp ⟨rfl, hbp⟩)))
          rename_i hS
          have HNX : Hid (Seek w wp g (P ++ (A ++ (B ++ Q))) N s e st c) := Lib.hid ⟨KH.out.arr.step (((Below.refl _ _).drew).trans hbp), KH.out.lo, Or.inr ⟨x, y, HX.out, by rw [show N - 1 - c = pc by have := HPC.out; have := HPN.out; omega]; exact HY.out, hl⟩, grown_trans KH.out.grown (grown_below (((Below.refl _ _).drew).trans hbp) _)⟩
          clear hS hbp e0 e1 e2 f0 f1 f2 KH
          go_wp2_with fail
          go_roundw
          case rel => exact ⟨st, c, rfl, rfl, by omega, by omega, by omega, HNX.out⟩
          case measure => simp [intOf]; omega
        · have hd : decide (cmpE y x < 0) = false := decide_eq_false (fun h => hl ((cmpE_lt y x).1 h))
          go_wp2_with fail
          go_region_held3 (fun w' => w'.cell? ⟨g, pc * 3, none⟩ = some (.int .i64 y.a) ∧ w'.cell? ⟨g, pc * 3 + 1, none⟩ = some (.int .i64 y.e) ∧ w'.cell? ⟨g, pc * 3 + 2, none⟩ = some (.string y.t) ∧ w'.cell? ⟨g, c * 3, none⟩ = some (.int .i64 x.a) ∧ w'.cell? ⟨g, c * 3 + 1, none⟩ = some (.int .i64 x.e) ∧ w'.cell? ⟨g, c * 3 + 2, none⟩ = some (.string x.t))
            (first
              | go_keep
              | (go_split_ands
                 refine ⟨?_, ?_, ?_, ?_, ?_, ?_⟩ <;> (rw [hbp.cell (by simpa using hgl)]; assumption)))
            ((first
              | (go_at_call 33; refine (comes_any y x _).mono ?_; rintro e wp ⟨rfl, hbp⟩)))
          rename_i hS
          have HNX : Hid (Seek w wp g (P ++ (A ++ (B ++ Q))) N s e (c + 1) r) := Lib.hid ⟨KH.out.arr.step (((Below.refl _ _).drew).trans hbp), Or.inr ⟨x, y, by rw [Nat.add_sub_cancel]; exact HX.out, by rw [show N - (c + 1) = pc by have := HPC.out; have := HPN.out; omega]; exact HY.out, hl⟩, KH.out.hi, grown_trans KH.out.grown (grown_below (((Below.refl _ _).drew).trans hbp) _)⟩
          clear hS hbp e0 e1 e2 f0 f1 f2 KH
          go_wp2_with fail
          go_roundw
          case rel => exact ⟨c + 1, r, by go_num, rfl, by omega, by omega, by omega, HNX.out⟩
          case measure => simp [intOf]; omega
      · have hrr : r = st := by omega
        subst hrr
        obtain ⟨A1, A2, B1, B2, rfl, rfl, lA1, lB1, h1, h2⟩ := seek_fin rfl HA.out HM.out HB.out HN.out HMID.out HSE.out HOA.out HOB.out hs1 hre K.lo K.hi
        have HSORT := Lib.hid (ssort_sym HOA.out HOB.out h1 h2)
        have AR0 : Hid (Arr wr g (P ++ (A1 ++ (A2 ++ (B1 ++ (B2 ++ Q)))))) := Lib.hid (by have := K.arr; simpa using this)
        have GR0 := Lib.hid K.grown
        obtain ⟨en, hen⟩ : ∃ en, en = N - r := ⟨_, rfl⟩
        have F4 : Hid (Four P A1 A2 B1 B2 Q a m b n mid r en k) := by
          have g1 := HA.out
          have g2 := HM.out
          have g3 := HB.out
          have g4 := HLEN.out
          have g5 := HN.out
          have g6 := HK.out
          have g7 := HA2.out
          have g8 := HB2.out
          simp only [List.length_append] at g2 g3 g4 g6 g7 g8
          exact Lib.hid ⟨by omega, by omega, by omega, by omega, by omega, by omega, by omega, by omega, by omega, by omega, (order_split HOA.out).1, (order_split HOA.out).2.1, (order_split HOB.out).1, (order_split HOB.out).2.1⟩
        have henc : (N : Int) - r = ((en : Nat) : Int) := by omega
        have hen60 : en ≤ n := by have := F4.out.lb1; have := F4.out.ln; omega
        clear hen h1 h2 lA1 lB1 K KH HA HM HB HSE HOA HOB HN0 HK HLEN HA2 HB2 HN HP HMID HARR q1 q2 q3 hs0
        generalize r = st at *
        by_cases c1 : st < m
        · by_cases c2 : m < en
          · go_wp2_with fail
            refine (rotate_any _ g st m en n cap (P ++ A1) A2 B1 (B2 ++ Q) (by simpa using AR0.out) (by have := F4.out.ln; simp; omega) hcap hm (by have := F4.out.la1; simp; omega) (by have := F4.out.la2; simp; omega) (by have := F4.out.lb1; simp; omega) (by have := F4.out.la1; have := F4.out.la2; omega) (by have := F4.out.la2; have := F4.out.lb1; omega)).mono ?_
            rintro e1 w1 ⟨rfl, arr1, gr1⟩
            have AR1 : Hid (Arr w1 g (P ++ (A1 ++ (B1 ++ (A2 ++ (B2 ++ Q)))))) := Lib.hid (by simpa using arr1)
            have GR1 := Lib.hid (grown_trans GR0.out gr1)
            clear arr1 gr1 AR0 GR0
            by_cases c3 : a < st
            · by_cases c4 : st < mid
              · go_wp2_with fail
                refine (HS.out _ g a st mid n cap P A1 B1 (A2 ++ (B2 ++ Q)) AR1.out (by have := F4.out.ln; simp; omega) hcap hm F4.out.ha.symm F4.out.la1.symm F4.out.lm.symm F4.out.o1 F4.out.o3 (by have := F4.out.la1; have := F4.out.ha; omega) (by have := F4.out.la1; have := F4.out.lm; omega) (by have := F4.out.lk; have := F4.out.lb2; have := F4.out.lm; have := F4.out.ha; have := hmb2; omega)).mono ?_
                rintro e2 w2 ⟨rfl, arr2, gr2⟩
                have AR2 := Lib.hid arr2
                have GR2 := Lib.hid (grown_trans GR1.out gr2)
                clear arr2 gr2 AR1 GR1
                by_cases c5 : mid < en
                · by_cases c6 : en < b
                  · have r3 : mid < en ∧ en < b := ⟨c5, c6⟩
                    go_wp2_with fail
                    refine (HS.out _ g mid en b n cap (P ++ ssort (A1 ++ B1)) A2 B2 Q (by simpa using AR2.out) (by have := F4.out.ln; have := ssort_length (A1 ++ B1); simp at *; omega) hcap hm (by have := F4.out.lm; have := ssort_length (A1 ++ B1); simp at *; omega) (by have := F4.out.lm; have := F4.out.lb1; have := ssort_length (A1 ++ B1); simp at *; omega) (by have := F4.out.lm; have := F4.out.lb2; have := ssort_length (A1 ++ B1); simp at *; omega) F4.out.o2 F4.out.o4 (by have := F4.out.lm; have := F4.out.lb1; omega) (by have := F4.out.lb1; have := F4.out.lb2; omega) (by have := F4.out.lk; have := F4.out.lm; have := F4.out.la1; have := F4.out.ha; have := ham2; omega)).mono ?_
                    rintro e3 w3 ⟨rfl, arr3, gr3⟩
                    have AR3 : Hid (Arr w3 g (P ++ (ssort (A1 ++ A2 ++ (B1 ++ B2)) ++ Q))) := Lib.hid (by rw [← HSORT.out]; simpa using arr3)
                    have GR3 := Lib.hid (grown_trans GR2.out gr3)
                    clear arr3 gr3
                    go_wp2_with fail
                    go_end0
                    exact ⟨rfl, AR3.out, GR3.out⟩
                  · skip
                    have AR3 : Hid (Arr w2 g (P ++ (ssort (A1 ++ A2 ++ (B1 ++ B2)) ++ Q))) := Lib.hid (by
                      have hx := AR2.out
                      rw [← HSORT.out]
                      have hz : ssort (A2 ++ B2) = A2 ++ B2 := by
                        have : B2 = [] := List.eq_nil_of_length_eq_zero (by have := F4.out.lb1; have := F4.out.lb2; omega)
                        rw [this, List.append_nil]; exact ssort_fix F4.out.o2
                      rw [hz]
                      simpa using hx)
                    have GR3 := GR2
                    go_wp2_with fail
                    go_end0
                    exact ⟨rfl, AR3.out, GR3.out⟩
                · skip
                  have AR3 : Hid (Arr w2 g (P ++ (ssort (A1 ++ A2 ++ (B1 ++ B2)) ++ Q))) := Lib.hid (by
                    have hx := AR2.out
                    rw [← HSORT.out]
                    have hz : ssort (A2 ++ B2) = A2 ++ B2 := by
                      have : A2 = [] := List.eq_nil_of_length_eq_zero (by have := F4.out.lm; have := F4.out.lb1; omega)
                      rw [this, List.nil_append]; exact ssort_fix F4.out.o4
                    rw [hz]
                    simpa using hx)
                  have GR3 := GR2
                  go_wp2_with fail
                  go_end0
                  exact ⟨rfl, AR3.out, GR3.out⟩
              · have AR2 : Hid (Arr w1 g (P ++ (ssort (A1 ++ B1) ++ (A2 ++ (B2 ++ Q))))) := Lib.hid (by
                  have hx := AR1.out
                  have hz : ssort (A1 ++ B1) = A1 ++ B1 := by
                    have : B1 = [] := List.eq_nil_of_length_eq_zero (by have := F4.out.la1; have := F4.out.lm; omega)
                    rw [this, List.append_nil]; exact ssort_fix F4.out.o1
                  rw [hz]
                  simpa using hx)
                have GR2 := GR1
                clear AR1 GR1
                generalize w1 = w2 at *
                by_cases c5 : mid < en
                · by_cases c6 : en < b
                  · have r3 : mid < en ∧ en < b := ⟨c5, c6⟩
                    go_wp2_with fail
                    refine (HS.out _ g mid en b n cap (P ++ ssort (A1 ++ B1)) A2 B2 Q (by simpa using AR2.out) (by have := F4.out.ln; have := ssort_length (A1 ++ B1); simp at *; omega) hcap hm (by have := F4.out.lm; have := ssort_length (A1 ++ B1); simp at *; omega) (by have := F4.out.lm; have := F4.out.lb1; have := ssort_length (A1 ++ B1); simp at *; omega) (by have := F4.out.lm; have := F4.out.lb2; have := ssort_length (A1 ++ B1); simp at *; omega) F4.out.o2 F4.out.o4 (by have := F4.out.lm; have := F4.out.lb1; omega) (by have := F4.out.lb1; have := F4.out.lb2; omega) (by have := F4.out.lk; have := F4.out.lm; have := F4.out.la1; have := F4.out.ha; have := ham2; omega)).mono ?_
                    rintro e3 w3 ⟨rfl, arr3, gr3⟩
                    have AR3 : Hid (Arr w3 g (P ++ (ssort (A1 ++ A2 ++ (B1 ++ B2)) ++ Q))) := Lib.hid (by rw [← HSORT.out]; simpa using arr3)
                    have GR3 := Lib.hid (grown_trans GR2.out gr3)
                    clear arr3 gr3
                    go_wp2_with fail
                    go_end0
                    exact ⟨rfl, AR3.out, GR3.out⟩
                  · skip
                    have AR3 : Hid (Arr w2 g (P ++ (ssort (A1 ++ A2 ++ (B1 ++ B2)) ++ Q))) := Lib.hid (by
                      have hx := AR2.out
                      rw [← HSORT.out]
                      have hz : ssort (A2 ++ B2) = A2 ++ B2 := by
                        have : B2 = [] := List.eq_nil_of_length_eq_zero (by have := F4.out.lb1; have := F4.out.lb2; omega)
                        rw [this, List.append_nil]; exact ssort_fix F4.out.o2
                      rw [hz]
                      simpa using hx)
                    have GR3 := GR2
                    go_wp2_with fail
                    go_end0
                    exact ⟨rfl, AR3.out, GR3.out⟩
                · skip
                  have AR3 : Hid (Arr w2 g (P ++ (ssort (A1 ++ A2 ++ (B1 ++ B2)) ++ Q))) := Lib.hid (by
                    have hx := AR2.out
                    rw [← HSORT.out]
                    have hz : ssort (A2 ++ B2) = A2 ++ B2 := by
                      have : A2 = [] := List.eq_nil_of_length_eq_zero (by have := F4.out.lm; have := F4.out.lb1; omega)
                      rw [this, List.nil_append]; exact ssort_fix F4.out.o4
                    rw [hz]
                    simpa using hx)
                  have GR3 := GR2
                  go_wp2_with fail
                  go_end0
                  exact ⟨rfl, AR3.out, GR3.out⟩
            · have AR2 : Hid (Arr w1 g (P ++ (ssort (A1 ++ B1) ++ (A2 ++ (B2 ++ Q))))) := Lib.hid (by
                have hx := AR1.out
                have hz : ssort (A1 ++ B1) = A1 ++ B1 := by
                  have : A1 = [] := List.eq_nil_of_length_eq_zero (by have := F4.out.la1; have := F4.out.ha; omega)
                  rw [this, List.nil_append]; exact ssort_fix F4.out.o3
                rw [hz]
                simpa using hx)
              have GR2 := GR1
              clear AR1 GR1
              generalize w1 = w2 at *
              by_cases c5 : mid < en
              · by_cases c6 : en < b
                · have r3 : mid < en ∧ en < b := ⟨c5, c6⟩
                  go_wp2_with fail
                  refine (HS.out _ g mid en b n cap (P ++ ssort (A1 ++ B1)) A2 B2 Q (by simpa using AR2.out) (by have := F4.out.ln; have := ssort_length (A1 ++ B1); simp at *; omega) hcap hm (by have := F4.out.lm; have := ssort_length (A1 ++ B1); simp at *; omega) (by have := F4.out.lm; have := F4.out.lb1; have := ssort_length (A1 ++ B1); simp at *; omega) (by have := F4.out.lm; have := F4.out.lb2; have := ssort_length (A1 ++ B1); simp at *; omega) F4.out.o2 F4.out.o4 (by have := F4.out.lm; have := F4.out.lb1; omega) (by have := F4.out.lb1; have := F4.out.lb2; omega) (by have := F4.out.lk; have := F4.out.lm; have := F4.out.la1; have := F4.out.ha; have := ham2; omega)).mono ?_
                  rintro e3 w3 ⟨rfl, arr3, gr3⟩
                  have AR3 : Hid (Arr w3 g (P ++ (ssort (A1 ++ A2 ++ (B1 ++ B2)) ++ Q))) := Lib.hid (by rw [← HSORT.out]; simpa using arr3)
                  have GR3 := Lib.hid (grown_trans GR2.out gr3)
                  clear arr3 gr3
                  go_wp2_with fail
                  go_end0
                  exact ⟨rfl, AR3.out, GR3.out⟩
                · skip
                  have AR3 : Hid (Arr w2 g (P ++ (ssort (A1 ++ A2 ++ (B1 ++ B2)) ++ Q))) := Lib.hid (by
                    have hx := AR2.out
                    rw [← HSORT.out]
                    have hz : ssort (A2 ++ B2) = A2 ++ B2 := by
                      have : B2 = [] := List.eq_nil_of_length_eq_zero (by have := F4.out.lb1; have := F4.out.lb2; omega)
                      rw [this, List.append_nil]; exact ssort_fix F4.out.o2
                    rw [hz]
                    simpa using hx)
                  have GR3 := GR2
                  go_wp2_with fail
                  go_end0
                  exact ⟨rfl, AR3.out, GR3.out⟩
              · skip
                have AR3 : Hid (Arr w2 g (P ++ (ssort (A1 ++ A2 ++ (B1 ++ B2)) ++ Q))) := Lib.hid (by
                  have hx := AR2.out
                  rw [← HSORT.out]
                  have hz : ssort (A2 ++ B2) = A2 ++ B2 := by
                    have : A2 = [] := List.eq_nil_of_length_eq_zero (by have := F4.out.lm; have := F4.out.lb1; omega)
                    rw [this, List.nil_append]; exact ssort_fix F4.out.o4
                  rw [hz]
                  simpa using hx)
                have GR3 := GR2
                go_wp2_with fail
                go_end0
                exact ⟨rfl, AR3.out, GR3.out⟩
          · have AR1 : Hid (Arr wr g (P ++ (A1 ++ (B1 ++ (A2 ++ (B2 ++ Q)))))) := Lib.hid (by
              have hx := AR0.out
              have hz : B1 = [] := List.eq_nil_of_length_eq_zero (by have := F4.out.la2; have := F4.out.lb1; omega)
              rw [hz] at hx ⊢
              simpa using hx)
            have GR1 := GR0
            clear AR0 GR0
            generalize wr = w1 at *
            by_cases c3 : a < st
            · by_cases c4 : st < mid
              · go_wp2_with fail
                refine (HS.out _ g a st mid n cap P A1 B1 (A2 ++ (B2 ++ Q)) AR1.out (by have := F4.out.ln; simp; omega) hcap hm F4.out.ha.symm F4.out.la1.symm F4.out.lm.symm F4.out.o1 F4.out.o3 (by have := F4.out.la1; have := F4.out.ha; omega) (by have := F4.out.la1; have := F4.out.lm; omega) (by have := F4.out.lk; have := F4.out.lb2; have := F4.out.lm; have := F4.out.ha; have := hmb2; omega)).mono ?_
                rintro e2 w2 ⟨rfl, arr2, gr2⟩
                have AR2 := Lib.hid arr2
                have GR2 := Lib.hid (grown_trans GR1.out gr2)
                clear arr2 gr2 AR1 GR1
                by_cases c5 : mid < en
                · by_cases c6 : en < b
                  · have r3 : mid < en ∧ en < b := ⟨c5, c6⟩
                    go_wp2_with fail
                    refine (HS.out _ g mid en b n cap (P ++ ssort (A1 ++ B1)) A2 B2 Q (by simpa using AR2.out) (by have := F4.out.ln; have := ssort_length (A1 ++ B1); simp at *; omega) hcap hm (by have := F4.out.lm; have := ssort_length (A1 ++ B1); simp at *; omega) (by have := F4.out.lm; have := F4.out.lb1; have := ssort_length (A1 ++ B1); simp at *; omega) (by have := F4.out.lm; have := F4.out.lb2; have := ssort_length (A1 ++ B1); simp at *; omega) F4.out.o2 F4.out.o4 (by have := F4.out.lm; have := F4.out.lb1; omega) (by have := F4.out.lb1; have := F4.out.lb2; omega) (by have := F4.out.lk; have := F4.out.lm; have := F4.out.la1; have := F4.out.ha; have := ham2; omega)).mono ?_
                    rintro e3 w3 ⟨rfl, arr3, gr3⟩
                    have AR3 : Hid (Arr w3 g (P ++ (ssort (A1 ++ A2 ++ (B1 ++ B2)) ++ Q))) := Lib.hid (by rw [← HSORT.out]; simpa using arr3)
                    have GR3 := Lib.hid (grown_trans GR2.out gr3)
                    clear arr3 gr3
                    go_wp2_with fail
                    go_end0
                    exact ⟨rfl, AR3.out, GR3.out⟩
                  · skip
                    have AR3 : Hid (Arr w2 g (P ++ (ssort (A1 ++ A2 ++ (B1 ++ B2)) ++ Q))) := Lib.hid (by
                      have hx := AR2.out
                      rw [← HSORT.out]
                      have hz : ssort (A2 ++ B2) = A2 ++ B2 := by
                        have : B2 = [] := List.eq_nil_of_length_eq_zero (by have := F4.out.lb1; have := F4.out.lb2; omega)
                        rw [this, List.append_nil]; exact ssort_fix F4.out.o2
                      rw [hz]
                      simpa using hx)
                    have GR3 := GR2
                    go_wp2_with fail
                    go_end0
                    exact ⟨rfl, AR3.out, GR3.out⟩
                · skip
                  have AR3 : Hid (Arr w2 g (P ++ (ssort (A1 ++ A2 ++ (B1 ++ B2)) ++ Q))) := Lib.hid (by
                    have hx := AR2.out
                    rw [← HSORT.out]
                    have hz : ssort (A2 ++ B2) = A2 ++ B2 := by
                      have : A2 = [] := List.eq_nil_of_length_eq_zero (by have := F4.out.lm; have := F4.out.lb1; omega)
                      rw [this, List.nil_append]; exact ssort_fix F4.out.o4
                    rw [hz]
                    simpa using hx)
                  have GR3 := GR2
                  go_wp2_with fail
                  go_end0
                  exact ⟨rfl, AR3.out, GR3.out⟩
              · have AR2 : Hid (Arr w1 g (P ++ (ssort (A1 ++ B1) ++ (A2 ++ (B2 ++ Q))))) := Lib.hid (by
                  have hx := AR1.out
                  have hz : ssort (A1 ++ B1) = A1 ++ B1 := by
                    have : B1 = [] := List.eq_nil_of_length_eq_zero (by have := F4.out.la1; have := F4.out.lm; omega)
                    rw [this, List.append_nil]; exact ssort_fix F4.out.o1
                  rw [hz]
                  simpa using hx)
                have GR2 := GR1
                clear AR1 GR1
                generalize w1 = w2 at *
                by_cases c5 : mid < en
                · by_cases c6 : en < b
                  · have r3 : mid < en ∧ en < b := ⟨c5, c6⟩
                    go_wp2_with fail
                    refine (HS.out _ g mid en b n cap (P ++ ssort (A1 ++ B1)) A2 B2 Q (by simpa using AR2.out) (by have := F4.out.ln; have := ssort_length (A1 ++ B1); simp at *; omega) hcap hm (by have := F4.out.lm; have := ssort_length (A1 ++ B1); simp at *; omega) (by have := F4.out.lm; have := F4.out.lb1; have := ssort_length (A1 ++ B1); simp at *; omega) (by have := F4.out.lm; have := F4.out.lb2; have := ssort_length (A1 ++ B1); simp at *; omega) F4.out.o2 F4.out.o4 (by have := F4.out.lm; have := F4.out.lb1; omega) (by have := F4.out.lb1; have := F4.out.lb2; omega) (by have := F4.out.lk; have := F4.out.lm; have := F4.out.la1; have := F4.out.ha; have := ham2; omega)).mono ?_
                    rintro e3 w3 ⟨rfl, arr3, gr3⟩
                    have AR3 : Hid (Arr w3 g (P ++ (ssort (A1 ++ A2 ++ (B1 ++ B2)) ++ Q))) := Lib.hid (by rw [← HSORT.out]; simpa using arr3)
                    have GR3 := Lib.hid (grown_trans GR2.out gr3)
                    clear arr3 gr3
                    go_wp2_with fail
                    go_end0
                    exact ⟨rfl, AR3.out, GR3.out⟩
                  · skip
                    have AR3 : Hid (Arr w2 g (P ++ (ssort (A1 ++ A2 ++ (B1 ++ B2)) ++ Q))) := Lib.hid (by
                      have hx := AR2.out
                      rw [← HSORT.out]
                      have hz : ssort (A2 ++ B2) = A2 ++ B2 := by
                        have : B2 = [] := List.eq_nil_of_length_eq_zero (by have := F4.out.lb1; have := F4.out.lb2; omega)
                        rw [this, List.append_nil]; exact ssort_fix F4.out.o2
                      rw [hz]
                      simpa using hx)
                    have GR3 := GR2
                    go_wp2_with fail
                    go_end0
                    exact ⟨rfl, AR3.out, GR3.out⟩
                · skip
                  have AR3 : Hid (Arr w2 g (P ++ (ssort (A1 ++ A2 ++ (B1 ++ B2)) ++ Q))) := Lib.hid (by
                    have hx := AR2.out
                    rw [← HSORT.out]
                    have hz : ssort (A2 ++ B2) = A2 ++ B2 := by
                      have : A2 = [] := List.eq_nil_of_length_eq_zero (by have := F4.out.lm; have := F4.out.lb1; omega)
                      rw [this, List.nil_append]; exact ssort_fix F4.out.o4
                    rw [hz]
                    simpa using hx)
                  have GR3 := GR2
                  go_wp2_with fail
                  go_end0
                  exact ⟨rfl, AR3.out, GR3.out⟩
            · have AR2 : Hid (Arr w1 g (P ++ (ssort (A1 ++ B1) ++ (A2 ++ (B2 ++ Q))))) := Lib.hid (by
                have hx := AR1.out
                have hz : ssort (A1 ++ B1) = A1 ++ B1 := by
                  have : A1 = [] := List.eq_nil_of_length_eq_zero (by have := F4.out.la1; have := F4.out.ha; omega)
                  rw [this, List.nil_append]; exact ssort_fix F4.out.o3
                rw [hz]
                simpa using hx)
              have GR2 := GR1
              clear AR1 GR1
              generalize w1 = w2 at *
              by_cases c5 : mid < en
              · by_cases c6 : en < b
                · have r3 : mid < en ∧ en < b := ⟨c5, c6⟩
                  go_wp2_with fail
                  refine (HS.out _ g mid en b n cap (P ++ ssort (A1 ++ B1)) A2 B2 Q (by simpa using AR2.out) (by have := F4.out.ln; have := ssort_length (A1 ++ B1); simp at *; omega) hcap hm (by have := F4.out.lm; have := ssort_length (A1 ++ B1); simp at *; omega) (by have := F4.out.lm; have := F4.out.lb1; have := ssort_length (A1 ++ B1); simp at *; omega) (by have := F4.out.lm; have := F4.out.lb2; have := ssort_length (A1 ++ B1); simp at *; omega) F4.out.o2 F4.out.o4 (by have := F4.out.lm; have := F4.out.lb1; omega) (by have := F4.out.lb1; have := F4.out.lb2; omega) (by have := F4.out.lk; have := F4.out.lm; have := F4.out.la1; have := F4.out.ha; have := ham2; omega)).mono ?_
                  rintro e3 w3 ⟨rfl, arr3, gr3⟩
                  have AR3 : Hid (Arr w3 g (P ++ (ssort (A1 ++ A2 ++ (B1 ++ B2)) ++ Q))) := Lib.hid (by rw [← HSORT.out]; simpa using arr3)
                  have GR3 := Lib.hid (grown_trans GR2.out gr3)
                  clear arr3 gr3
                  go_wp2_with fail
                  go_end0
                  exact ⟨rfl, AR3.out, GR3.out⟩
                · skip
                  have AR3 : Hid (Arr w2 g (P ++ (ssort (A1 ++ A2 ++ (B1 ++ B2)) ++ Q))) := Lib.hid (by
                    have hx := AR2.out
                    rw [← HSORT.out]
                    have hz : ssort (A2 ++ B2) = A2 ++ B2 := by
                      have : B2 = [] := List.eq_nil_of_length_eq_zero (by have := F4.out.lb1; have := F4.out.lb2; omega)
                      rw [this, List.append_nil]; exact ssort_fix F4.out.o2
                    rw [hz]
                    simpa using hx)
                  have GR3 := GR2
                  go_wp2_with fail
                  go_end0
                  exact ⟨rfl, AR3.out, GR3.out⟩
              · skip
                have AR3 : Hid (Arr w2 g (P ++ (ssort (A1 ++ A2 ++ (B1 ++ B2)) ++ Q))) := Lib.hid (by
                  have hx := AR2.out
                  rw [← HSORT.out]
                  have hz : ssort (A2 ++ B2) = A2 ++ B2 := by
                    have : A2 = [] := List.eq_nil_of_length_eq_zero (by have := F4.out.lm; have := F4.out.lb1; omega)
                    rw [this, List.nil_append]; exact ssort_fix F4.out.o4
                  rw [hz]
                  simpa using hx)
                have GR3 := GR2
                go_wp2_with fail
                go_end0
                exact ⟨rfl, AR3.out, GR3.out⟩
        · have AR1 : Hid (Arr wr g (P ++ (A1 ++ (B1 ++ (A2 ++ (B2 ++ Q)))))) := Lib.hid (by
            have hx := AR0.out
            have hz : A2 = [] := List.eq_nil_of_length_eq_zero (by have := F4.out.la1; have := F4.out.la2; omega)
            rw [hz] at hx ⊢
            simpa using hx)
          have GR1 := GR0
          clear AR0 GR0
          generalize wr = w1 at *
          by_cases c3 : a < st
          · by_cases c4 : st < mid
            · go_wp2_with fail
              refine (HS.out _ g a st mid n cap P A1 B1 (A2 ++ (B2 ++ Q)) AR1.out (by have := F4.out.ln; simp; omega) hcap hm F4.out.ha.symm F4.out.la1.symm F4.out.lm.symm F4.out.o1 F4.out.o3 (by have := F4.out.la1; have := F4.out.ha; omega) (by have := F4.out.la1; have := F4.out.lm; omega) (by have := F4.out.lk; have := F4.out.lb2; have := F4.out.lm; have := F4.out.ha; have := hmb2; omega)).mono ?_
              rintro e2 w2 ⟨rfl, arr2, gr2⟩
              have AR2 := Lib.hid arr2
              have GR2 := Lib.hid (grown_trans GR1.out gr2)
              clear arr2 gr2 AR1 GR1
              by_cases c5 : mid < en
              · by_cases c6 : en < b
                · have r3 : mid < en ∧ en < b := ⟨c5, c6⟩
                  go_wp2_with fail
                  refine (HS.out _ g mid en b n cap (P ++ ssort (A1 ++ B1)) A2 B2 Q (by simpa using AR2.out) (by have := F4.out.ln; have := ssort_length (A1 ++ B1); simp at *; omega) hcap hm (by have := F4.out.lm; have := ssort_length (A1 ++ B1); simp at *; omega) (by have := F4.out.lm; have := F4.out.lb1; have := ssort_length (A1 ++ B1); simp at *; omega) (by have := F4.out.lm; have := F4.out.lb2; have := ssort_length (A1 ++ B1); simp at *; omega) F4.out.o2 F4.out.o4 (by have := F4.out.lm; have := F4.out.lb1; omega) (by have := F4.out.lb1; have := F4.out.lb2; omega) (by have := F4.out.lk; have := F4.out.lm; have := F4.out.la1; have := F4.out.ha; have := ham2; omega)).mono ?_
                  rintro e3 w3 ⟨rfl, arr3, gr3⟩
                  have AR3 : Hid (Arr w3 g (P ++ (ssort (A1 ++ A2 ++ (B1 ++ B2)) ++ Q))) := Lib.hid (by rw [← HSORT.out]; simpa using arr3)
                  have GR3 := Lib.hid (grown_trans GR2.out gr3)
                  clear arr3 gr3
                  go_wp2_with fail
                  go_end0
                  exact ⟨rfl, AR3.out, GR3.out⟩
                · skip
                  have AR3 : Hid (Arr w2 g (P ++ (ssort (A1 ++ A2 ++ (B1 ++ B2)) ++ Q))) := Lib.hid (by
                    have hx := AR2.out
                    rw [← HSORT.out]
                    have hz : ssort (A2 ++ B2) = A2 ++ B2 := by
                      have : B2 = [] := List.eq_nil_of_length_eq_zero (by have := F4.out.lb1; have := F4.out.lb2; omega)
                      rw [this, List.append_nil]; exact ssort_fix F4.out.o2
                    rw [hz]
                    simpa using hx)
                  have GR3 := GR2
                  go_wp2_with fail
                  go_end0
                  exact ⟨rfl, AR3.out, GR3.out⟩
              · skip
                have AR3 : Hid (Arr w2 g (P ++ (ssort (A1 ++ A2 ++ (B1 ++ B2)) ++ Q))) := Lib.hid (by
                  have hx := AR2.out
                  rw [← HSORT.out]
                  have hz : ssort (A2 ++ B2) = A2 ++ B2 := by
                    have : A2 = [] := List.eq_nil_of_length_eq_zero (by have := F4.out.lm; have := F4.out.lb1; omega)
                    rw [this, List.nil_append]; exact ssort_fix F4.out.o4
                  rw [hz]
                  simpa using hx)
                have GR3 := GR2
                go_wp2_with fail
                go_end0
                exact ⟨rfl, AR3.out, GR3.out⟩
            · have AR2 : Hid (Arr w1 g (P ++ (ssort (A1 ++ B1) ++ (A2 ++ (B2 ++ Q))))) := Lib.hid (by
                have hx := AR1.out
                have hz : ssort (A1 ++ B1) = A1 ++ B1 := by
                  have : B1 = [] := List.eq_nil_of_length_eq_zero (by have := F4.out.la1; have := F4.out.lm; omega)
                  rw [this, List.append_nil]; exact ssort_fix F4.out.o1
                rw [hz]
                simpa using hx)
              have GR2 := GR1
              clear AR1 GR1
              generalize w1 = w2 at *
              by_cases c5 : mid < en
              · by_cases c6 : en < b
                · have r3 : mid < en ∧ en < b := ⟨c5, c6⟩
                  go_wp2_with fail
                  refine (HS.out _ g mid en b n cap (P ++ ssort (A1 ++ B1)) A2 B2 Q (by simpa using AR2.out) (by have := F4.out.ln; have := ssort_length (A1 ++ B1); simp at *; omega) hcap hm (by have := F4.out.lm; have := ssort_length (A1 ++ B1); simp at *; omega) (by have := F4.out.lm; have := F4.out.lb1; have := ssort_length (A1 ++ B1); simp at *; omega) (by have := F4.out.lm; have := F4.out.lb2; have := ssort_length (A1 ++ B1); simp at *; omega) F4.out.o2 F4.out.o4 (by have := F4.out.lm; have := F4.out.lb1; omega) (by have := F4.out.lb1; have := F4.out.lb2; omega) (by have := F4.out.lk; have := F4.out.lm; have := F4.out.la1; have := F4.out.ha; have := ham2; omega)).mono ?_
                  rintro e3 w3 ⟨rfl, arr3, gr3⟩
                  have AR3 : Hid (Arr w3 g (P ++ (ssort (A1 ++ A2 ++ (B1 ++ B2)) ++ Q))) := Lib.hid (by rw [← HSORT.out]; simpa using arr3)
                  have GR3 := Lib.hid (grown_trans GR2.out gr3)
                  clear arr3 gr3
                  go_wp2_with fail
                  go_end0
                  exact ⟨rfl, AR3.out, GR3.out⟩
                · skip
                  have AR3 : Hid (Arr w2 g (P ++ (ssort (A1 ++ A2 ++ (B1 ++ B2)) ++ Q))) := Lib.hid (by
                    have hx := AR2.out
                    rw [← HSORT.out]
                    have hz : ssort (A2 ++ B2) = A2 ++ B2 := by
                      have : B2 = [] := List.eq_nil_of_length_eq_zero (by have := F4.out.lb1; have := F4.out.lb2; omega)
                      rw [this, List.append_nil]; exact ssort_fix F4.out.o2
                    rw [hz]
                    simpa using hx)
                  have GR3 := GR2
                  go_wp2_with fail
                  go_end0
                  exact ⟨rfl, AR3.out, GR3.out⟩
              · skip
                have AR3 : Hid (Arr w2 g (P ++ (ssort (A1 ++ A2 ++ (B1 ++ B2)) ++ Q))) := Lib.hid (by
                  have hx := AR2.out
                  rw [← HSORT.out]
                  have hz : ssort (A2 ++ B2) = A2 ++ B2 := by
                    have : A2 = [] := List.eq_nil_of_length_eq_zero (by have := F4.out.lm; have := F4.out.lb1; omega)
                    rw [this, List.nil_append]; exact ssort_fix F4.out.o4
                  rw [hz]
                  simpa using hx)
                have GR3 := GR2
                go_wp2_with fail
                go_end0
                exact ⟨rfl, AR3.out, GR3.out⟩
          · have AR2 : Hid (Arr w1 g (P ++ (ssort (A1 ++ B1) ++ (A2 ++ (B2 ++ Q))))) := Lib.hid (by
              have hx := AR1.out
              have hz : ssort (A1 ++ B1) = A1 ++ B1 := by
                have : A1 = [] := List.eq_nil_of_length_eq_zero (by have := F4.out.la1; have := F4.out.ha; omega)
                rw [this, List.nil_append]; exact ssort_fix F4.out.o3
              rw [hz]
              simpa using hx)
            have GR2 := GR1
            clear AR1 GR1
            generalize w1 = w2 at *
            by_cases c5 : mid < en
            · by_cases c6 : en < b
              · have r3 : mid < en ∧ en < b := ⟨c5, c6⟩
                go_wp2_with fail
                refine (HS.out _ g mid en b n cap (P ++ ssort (A1 ++ B1)) A2 B2 Q (by simpa using AR2.out) (by have := F4.out.ln; have := ssort_length (A1 ++ B1); simp at *; omega) hcap hm (by have := F4.out.lm; have := ssort_length (A1 ++ B1); simp at *; omega) (by have := F4.out.lm; have := F4.out.lb1; have := ssort_length (A1 ++ B1); simp at *; omega) (by have := F4.out.lm; have := F4.out.lb2; have := ssort_length (A1 ++ B1); simp at *; omega) F4.out.o2 F4.out.o4 (by have := F4.out.lm; have := F4.out.lb1; omega) (by have := F4.out.lb1; have := F4.out.lb2; omega) (by have := F4.out.lk; have := F4.out.lm; have := F4.out.la1; have := F4.out.ha; have := ham2; omega)).mono ?_
                rintro e3 w3 ⟨rfl, arr3, gr3⟩
                have AR3 : Hid (Arr w3 g (P ++ (ssort (A1 ++ A2 ++ (B1 ++ B2)) ++ Q))) := Lib.hid (by rw [← HSORT.out]; simpa using arr3)
                have GR3 := Lib.hid (grown_trans GR2.out gr3)
                clear arr3 gr3
                go_wp2_with fail
                go_end0
                exact ⟨rfl, AR3.out, GR3.out⟩
              · skip
                have AR3 : Hid (Arr w2 g (P ++ (ssort (A1 ++ A2 ++ (B1 ++ B2)) ++ Q))) := Lib.hid (by
                  have hx := AR2.out
                  rw [← HSORT.out]
                  have hz : ssort (A2 ++ B2) = A2 ++ B2 := by
                    have : B2 = [] := List.eq_nil_of_length_eq_zero (by have := F4.out.lb1; have := F4.out.lb2; omega)
                    rw [this, List.append_nil]; exact ssort_fix F4.out.o2
                  rw [hz]
                  simpa using hx)
                have GR3 := GR2
                go_wp2_with fail
                go_end0
                exact ⟨rfl, AR3.out, GR3.out⟩
            · skip
              have AR3 : Hid (Arr w2 g (P ++ (ssort (A1 ++ A2 ++ (B1 ++ B2)) ++ Q))) := Lib.hid (by
                have hx := AR2.out
                rw [← HSORT.out]
                have hz : ssort (A2 ++ B2) = A2 ++ B2 := by
                  have : A2 = [] := List.eq_nil_of_length_eq_zero (by have := F4.out.lm; have := F4.out.lb1; omega)
                  rw [this, List.nil_append]; exact ssort_fix F4.out.o4
                rw [hz]
                simpa using hx)
              have GR3 := GR2
              go_wp2_with fail
              go_end0
              exact ⟨rfl, AR3.out, GR3.out⟩
end Go.Proofs.Ytficgilapbmmpaa
