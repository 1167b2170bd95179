/-
  LexNotes, walked.
-/
import Derived.Test.YtnkgmddaodbpcaaDoorNotes
namespace Go.Proofs.YtnkgmddaodbpcaaDoor
open Go.RowKit
set_option linter.unusedVariables false
set_option linter.unusedSimpArgs false

theorem app_data (a b : ByteArray) : (a ++ b).data.toList = a.data.toList ++ b.data.toList := by
  rw [ByteArray.data_append, Array.toList_append]
def nestS (x : ByteArray) : Nat → ByteArray
  | 0 => ⟨#[]⟩
  | n + 1 => ⟨#[40, 42]⟩ ++ x ++ nestS x n ++ x ++ ⟨#[42, 41]⟩
theorem nestS_data (x : ByteArray) (n : Nat) : (nestS x n).data.toList = nestL x.data.toList n := by
  induction n with
  | zero => rfl
  | succ n ih => simp only [nestS, nestL, app_data, ih]; simp
theorem nestS_size (x : ByteArray) (n : Nat) : (nestS x n).size = n * (4 + 2 * x.size) := by
  rw [← data_len, nestS_data, nestL_length, data_len]
/-- The first tokens of a text whose first token is told. -/
theorem scan_two (s : ByteArray) (k : Int) (n : Nat) (h0 : 0 < s.size) (h : tokN s.data.toList = (k, n)) (hn : n = s.size) : scanT s = [⟨k, 0, n⟩, ⟨0, n, n⟩] := by
  unfold scanT
  have e : tokAt s 0 = ⟨k, 0, n⟩ := by rw [tokAt_in s 0 h0, List.drop_zero, h, Nat.zero_add]
  rw [restT_at s 0 h0, e]
  simp only
  rw [hn, restT_end, tokAt_end]
theorem scan_three (s : ByteArray) (k k2 : Int) (n : Nat) (h0 : 0 < s.size) (h : tokN s.data.toList = (k, n)) (hn : n < s.size) (h2 : tokN (s.data.toList.drop n) = (k2, s.size - n)) : scanT s = [⟨k, 0, n⟩, ⟨k2, n, s.size⟩, ⟨0, s.size, s.size⟩] := by
  unfold scanT
  have e : tokAt s 0 = ⟨k, 0, n⟩ := by rw [tokAt_in s 0 h0, List.drop_zero, h, Nat.zero_add]
  have e2 : tokAt s n = ⟨k2, n, s.size⟩ := by rw [tokAt_in s n hn, h2]; simp; omega
  rw [restT_at s 0 h0, e]
  simp only
  rw [restT_at s n hn, e2]
  simp only
  rw [restT_end, tokAt_end]
theorem nest_pos (x : List UInt8) (n : Nat) : 4 ≤ (nestL x (n + 1)).length := by simp [nestL]; omega
theorem tok_x : tokN [120] = (6, 1) := (by kernel_rfl : tokN [120] = (plainN [120], 1)).trans (by rw [plain_of (by decide) ex_k6 rfl])
theorem notes_closed (x : ByteArray) (hx : ∀ c ∈ x.data.toList, aeB c = true) (n : Nat) : scanT (nestS x (n + 1) ++ ⟨#[120]⟩) = [⟨2, 0, (nestS x (n + 1)).size⟩, ⟨6, (nestS x (n + 1)).size, (nestS x (n + 1)).size + 1⟩, ⟨0, (nestS x (n + 1)).size + 1, (nestS x (n + 1)).size + 1⟩] := by
  have hd : (nestS x (n + 1) ++ ⟨#[120]⟩).data.toList = nestL x.data.toList (n + 1) ++ [120] := by rw [app_data, nestS_data]
  have hz : (nestS x (n + 1) ++ ⟨#[120]⟩).size = (nestS x (n + 1)).size + 1 := by rw [← data_len, hd, List.length_append, ← nestS_data, data_len]; rfl
  have hl : (nestL x.data.toList (n + 1)).length = (nestS x (n + 1)).size := by rw [← nestS_data, data_len]
  have hp := nest_pos x.data.toList n
  have ht : tokN (nestS x (n + 1) ++ ⟨#[120]⟩).data.toList = (2, (nestS x (n + 1)).size) := by
    rw [hd, nest_head]
    unfold noteN
    simp only
    rw [note_closed _ hx n, List.length_append, hl]
    have : ((nestS x (n + 1)).size - 1 == (nestS x (n + 1)).size + [(120 : UInt8)].length) = false := by rw [beq_eq_false_iff_ne]; simp only [List.length_cons, List.length_nil]; omega
    rw [this]
    simp only [cond_false]
    rw [show (nestS x (n + 1)).size - 1 + 1 = (nestS x (n + 1)).size from by omega]
  have := scan_three (nestS x (n + 1) ++ ⟨#[120]⟩) 2 6 (nestS x (n + 1)).size (by omega) ht (by omega) (by
    rw [hd, List.drop_append_of_le_length (by omega), List.drop_eq_nil_of_le (by omega), List.nil_append, tok_x, hz, show (nestS x (n + 1)).size + 1 - (nestS x (n + 1)).size = 1 from by omega])
  rw [this, hz]
/-- The notes without their last end, and an x. -/
def cutS (x : ByteArray) (n : Nat) : ByteArray := (nestS x (n + 1)).extract 0 ((nestS x (n + 1)).size - 2) ++ ⟨#[120]⟩
theorem cutS_data (x : ByteArray) (n : Nat) : (cutS x n).data.toList = (nestL x.data.toList (n + 1)).take ((nestL x.data.toList (n + 1)).length - 2) ++ [120] := by
  unfold cutS
  rw [app_data, Lib.extract_data, List.drop_zero, nestS_data, ← data_len, nestS_data]
  rfl
theorem cutS_size (x : ByteArray) (n : Nat) : (cutS x n).size = (nestS x (n + 1)).size - 1 := by
  have hp := nest_pos x.data.toList n
  rw [← data_len, cutS_data, List.length_append, List.length_take, ← data_len (nestS x (n + 1)), nestS_data]
  simp; omega
theorem cut_head (x : ByteArray) (n : Nat) (r : List UInt8) : ∃ t, (cutS x n).data.toList = 40 :: 42 :: t := by
  rw [cutS_data]
  have hp := nest_pos x.data.toList n
  obtain ⟨m, hm⟩ : ∃ m, (nestL x.data.toList (n + 1)).length - 2 = m + 2 := ⟨(nestL x.data.toList (n + 1)).length - 4, by omega⟩
  rw [hm]
  exact ⟨_, rfl⟩
theorem cut_tok (x : ByteArray) (hx : ∀ c ∈ x.data.toList, aeB c = true) (n : Nat) : tokN (cutS x n).data.toList = (3, (nestS x (n + 1)).size - 1) := by
  obtain ⟨t, ht⟩ := cut_head x n []
  have h1 : tokN (cutS x n).data.toList = noteN (cutS x n).data.toList := by rw [ht]; rfl
  have hl : (nestL x.data.toList (n + 1)).length = (nestS x (n + 1)).size := by rw [← nestS_data, data_len]
  rw [h1]
  unfold noteN
  simp only
  rw [data_len, cutS_size, cutS_data, note_opened _ hx n, hl]
  simp
theorem notes_opened (x : ByteArray) (hx : ∀ c ∈ x.data.toList, aeB c = true) (n : Nat) : scanT (cutS x n) = [⟨3, 0, (nestS x (n + 1)).size - 1⟩, ⟨0, (nestS x (n + 1)).size - 1, (nestS x (n + 1)).size - 1⟩] := by
  have hp := nest_pos x.data.toList n
  have hl : (nestL x.data.toList (n + 1)).length = (nestS x (n + 1)).size := by rw [← nestS_data, data_len]
  exact scan_two (cutS x n) 3 _ (by rw [cutS_size]; omega) (cut_tok x hx n) (cutS_size x n).symm
theorem notes_first (x : ByteArray) (hx : ∀ c ∈ x.data.toList, aeB c = true) (n : Nat) (p : ByteArray) (hp : p.data.toList = 121 :: 32 :: (cutS x n).data.toList) : firstN p = (2, 8) := by
  obtain ⟨t, ht⟩ := cut_head x n []
  have hz : p.size = (cutS x n).size + 2 := by rw [← data_len, hp, ← data_len]; simp
  have hc : 2 ≤ (cutS x n).size := by rw [← data_len, ht]; simp
  have hct := cut_tok x hx n
  have hcs := cutS_size x n
  have e0 : tokAt p 0 = ⟨6, 0, 1⟩ := by
    rw [tokAt_in p 0 (by omega), List.drop_zero, hp]
    have : tokN (121 :: 32 :: (cutS x n).data.toList) = (plainN [121], 1) := rfl
    rw [this, plain_of (by decide) ex_k7 rfl]; rfl
  have e1 : tokAt p 1 = ⟨1, 1, 2⟩ := by
    rw [tokAt_in p 1 (by omega), hp]
    have : tokN ((121 :: 32 :: (cutS x n).data.toList).drop 1) = (1, 1) := by rw [ht]; rfl
    rw [this]; rfl
  have e2 : tokAt p 2 = ⟨3, 2, p.size⟩ := by
    rw [tokAt_in p 2 (by omega), hp]
    have : tokN ((121 :: 32 :: (cutS x n).data.toList).drop 2) = (3, (nestS x (n + 1)).size - 1) := hct
    rw [this]
    simp only [Tok.mk.injEq, true_and]
    omega
  unfold firstN scanT
  rw [restT_at p 0 (by omega), e0]
  simp only
  rw [restT_at p 1 (by omega), e1]
  simp only
  rw [restT_at p 2 (by omega), e2]
  simp only
  have hb : badN p 2 = 8 := by
    unfold badN
    rw [hp]
    have : (121 :: 32 :: (cutS x n).data.toList).drop 2 = 40 :: 42 :: t := by rw [ht]; rfl
    rw [this]
    rfl
  simp [firstT, noBad, hb]

theorem num_of (q : Int) : ∃ (r : Int) (N : Nat), q.tmod 300 = r ∧ -300 < r ∧ r < 300 ∧ N < 300 ∧ (r + 300).tmod 300 = (N : Int) := by
  have h1 : -300 < q.tmod 300 ∧ q.tmod 300 < 300 := by
    by_cases h : 0 ≤ q
    · rw [Int.tmod_eq_emod_of_nonneg h]; omega
    · obtain ⟨p, rfl⟩ : ∃ p, q = -p := ⟨-q, by omega⟩
      rw [Int.neg_tmod, Int.tmod_eq_emod_of_nonneg (by omega)]; omega
  refine ⟨q.tmod 300, ((q.tmod 300 + 300) % 300).toNat, rfl, h1.1, h1.2, by omega, ?_⟩
  rw [Int.tmod_eq_emod_of_nonneg (by omega)]
  omega
/-- All letters up to a place are from a to e. -/
def AeTo (x : ByteArray) (k : Nat) : Prop := ∀ j, j < k → (hj : j < x.data.toList.length) → aeB (x.data.toList[j]'hj) = true

set_option maxRecDepth 100000 in
set_option maxHeartbeats 4000000 in
theorem lexNotes_walk (q : Int) (x : ByteArray) (w : World) (hq : (Lit.int .i64 q).wf = true) (hs0 : x.size ≤ 9223372036854775807) (hk : Kw w) :
    Calls Tryd.prog 6 #[.int .i64 q, .string x] w fun e w' => e = .returned (.bool true) ∧ Below w.heap.size w w' := by
  have HAl := fun W (h : Below w.heap.size w W) => alive_any W (Kw.step (w1 := W) hk h)
  obtain ⟨r, n, hr, hr1, hr2, hn, hne⟩ := num_of q
  clear hq
  by_cases hbig : 20 < x.size
  · clear hk
    go_enter Tryd.func6, Tryd.ntmps6
    go_wp2_with fail
    refine (HAl w (Below.refl _ _)).mono ?_
    rintro e w1 ⟨rfl, hb⟩
    go_wp2_with fail
    go_ret
    exact ⟨rfl, hb⟩
  · have hs : x.size ≤ 20 := by omega
    have HSc := fun p hp W (h : Below w.heap.size w W) => scan_any p hp W (Kw.step (w1 := W) hk h)
    have HFi := fun p hp W (h : Below w.heap.size w W) => first_is p hp W (Kw.step (w1 := W) hk h)
    clear hk hbig hs0
    go_enter Tryd.func6, Tryd.ntmps6
    go_wp2_with fail
    clear hne
    go_loop [23] (fun i => ∃ k : Nat, k ≤ x.size ∧ i = .int .i64 k ∧ Hid (AeTo x k)) (fun i => x.size - (intOf i).toNat)
    case atStart => exact ⟨0, by omega, rfl, Lib.hid (fun j h => by omega)⟩
    case round =>
      obtain ⟨k, hk, rfl, HJ⟩ := hrel
      by_cases hlt : k < x.size
      · have hc := x[k].toNat_lt
        by_cases h1 : 97 ≤ x[k].toNat ∧ x[k].toNat ≤ 101
        · obtain ⟨h2, h3⟩ := h1
          have HE : Hid (AeTo x (k + 1)) := Lib.hid fun j hj hj2 => by
            by_cases e : j = k
            · subst e; rw [data_at x j hlt]; unfold aeB; simp; omega
            · exact HJ.out j (by omega) hj2
          go_wp2_with fail
          go_round
          case rel => exact ⟨k + 1, by omega, by go_num, HE⟩
          case measure => simp [intOf]; omega
        · have HX := HAl w (Below.refl _ _)
          by_cases h2 : 97 ≤ x[k].toNat
          · have h3 : ¬ x[k].toNat ≤ 101 := fun h => h1 ⟨h2, h⟩
            clear h1
            go_wp2_with fail
            refine HX.mono ?_
            rintro e w1 ⟨rfl, hb⟩
            go_wp2_with fail
            go_ret
            exact ⟨rfl, hb⟩
          · clear h1
            go_wp2_with fail
            refine HX.mono ?_
            rintro e w1 ⟨rfl, hb⟩
            go_wp2_with fail
            go_ret
            exact ⟨rfl, hb⟩
      · have HE : Hid (∀ c ∈ x.data.toList, aeB c = true) := Lib.hid fun c hc => by
          obtain ⟨j, hj, e⟩ := List.getElem_of_mem hc
          rw [← e]
          exact HJ.out j (by have := data_len x; omega) hj
        clear HJ
        go_wp2_with fail
        go_loop [6, 7] (fun v i => ∃ k : Nat, k ≤ n + 1 ∧ i = .int .i64 k ∧ v = .string (nestS x k)) (fun _ i => n + 1 - (intOf i).toNat)
        case atStart => exact ⟨0, by omega, rfl, rfl⟩
        case round =>
          obtain ⟨k, hk, rfl, rfl⟩ := hrel
          by_cases hlt : k < n + 1
          · have HE2 : Hid (nestS x (k + 1) = ⟨#[40, 42]⟩ ++ x ++ nestS x k ++ x ++ ⟨#[42, 41]⟩) := Lib.hid rfl
            have hz := nestS_size x k
            have hz2 : (nestS x k).size ≤ 20000 := by
              rw [hz]
              calc k * (4 + 2 * x.size) ≤ 300 * 44 := Nat.mul_le_mul (by omega) (by omega)
                _ ≤ 20000 := by omega
            have hzi : ((nestS x k).size : Int) ≤ 20000 := by omega
            clear hz hz2
            generalize nestS x k = y at *
            go_wp2_with fail
            go_round
            case rel => exact ⟨k + 1, by omega, by go_num, by rw [HE2.out]⟩
            case measure => simp [intOf]; omega
          · have hkn : k = n + 1 := by omega
            subst hkn
            have hz : (nestS x (n + 1)).size ≤ 20000 := by
              rw [nestS_size]
              calc (n + 1) * (4 + 2 * x.size) ≤ 300 * 44 := Nat.mul_le_mul (by omega) (by omega)
                _ ≤ 20000 := by omega
            have hz4 : 4 ≤ (nestS x (n + 1)).size := by rw [← data_len, nestS_data]; exact nest_pos _ _
            have S1 := Lib.hid (notes_closed x HE.out n)
            have S2 := Lib.hid (notes_opened x HE.out n)
            have S3 := Lib.hid (notes_first x HE.out n)
            have HCut : Hid (cutS x n = (nestS x (n + 1)).extract 0 ((nestS x (n + 1)).size - 2) ++ ⟨#[120]⟩) := Lib.hid rfl
            obtain ⟨m, hm⟩ : ∃ m, (nestS x (n + 1)).size = m + 2 := ⟨(nestS x (n + 1)).size - 2, by omega⟩
            rw [hm] at HCut
            have HCut' : Hid ((nestS x (n + 1)).extract 0 m ++ ⟨#[120]⟩ = cutS x n) := Lib.hid HCut.out.symm
            have hsl : ∀ w, Sem.run Tryd.prog (Instr.slice 9 (.string (nestS x (n + 1))) none (some (.int .i64 (m : Int))) none) w = .ok (.string ((nestS x (n + 1)).extract 0 m)) w := fun w => by
              have := run_slice_string_h (P := Tryd.prog) w 9 (nestS x (n + 1)) Tryd.underlying9 .i64 (m : Int) (by omega) (by rw [hm]; omega)
              exact this
            have HX1 := fun W hW => HSc (nestS x (n + 1) ++ ⟨#[120]⟩) (by rw [ByteArray.size_append]; show _ + 1 ≤ _; omega) W hW
            rw [S1.out] at HX1
            have HX2 := fun W hW => HSc ((nestS x (n + 1)).extract 0 m ++ ⟨#[120]⟩) (by rw [HCut'.out, cutS_size]; omega) W hW
            rw [HCut'.out, S2.out] at HX2
            rw [← HCut'.out] at HX2
            rw [hm] at HX1 HX2
            have hmi : (m : Int) ≤ 20000 := by omega
            have hp3 : (⟨#[121, 32]⟩ ++ (nestS x (n + 1)).extract 0 m ++ ⟨#[120]⟩ : ByteArray).data.toList = 121 :: 32 :: (cutS x n).data.toList := by
              rw [← HCut'.out, app_data, app_data, app_data]; rfl
            have HX3 := fun W hW => HFi (⟨#[121, 32]⟩ ++ (nestS x (n + 1)).extract 0 m ++ ⟨#[120]⟩) (by rw [← data_len, hp3, List.length_cons, List.length_cons, data_len, cutS_size]; omega) W hW
            rw [S3.out _ hp3] at HX3
            clear HCut HCut' S1 S2 S3 hp3 HE hz hz4 HSc HFi
            generalize nestS x (n + 1) = y at *
            have e1 : (y.size : Int) - 2 = (m : Int) := by omega
            have hwr : IntKind.i64.wrap ((y.size : Int) - 2) = (m : Int) := by rw [e1]; exact IntWalk.i64_in _ ⟨by omega, by omega⟩
            have e2 : (m : Int) ≤ (y.size : Int) := by omega
            have e4 : (0 : Int) ≤ (m : Int) := by omega
            have hyi : (y.size : Int) ≤ 20002 := by omega
            have e3 : (y.size : Int) = (m : Int) + 2 := by omega
            have HM := Lib.hid hm
            have E3 := Lib.hid e3
            have EE1 := Lib.hid e1
            clear hm e3 e1
            go_wp2_with fail
            have k1 : ¬ 9223372036854775807 < y.size + 1 := by omega
            have k2 : ¬ 9223372036854775806 < y.size := by omega
            have k3 : ¬ 9223372036854775807 ≤ y.size := by omega
            have k4 : y.size < 9223372036854775807 := by omega
            have k5 : ¬ 9223372036854775807 < (y.extract 0 m).size + 1 := by rw [ByteArray.size_extract]; omega
            have k6 : ¬ 9223372036854775807 < min m y.size + 1 := by omega
            have k7 : ¬ 9223372036854775807 ≤ min m y.size := by omega
            have k8 : ¬ (9223372036854775807 ≤ m ∧ 9223372036854775807 ≤ y.size) := by omega
            have k9 : ¬ 9223372036854775807 ≤ m := by omega
            go_region_held3 (fun w' => Below w.heap.size w w')
              (first
                | exact (Below.refl _ _).drew
                | assumption
                | exact Below.trans (by assumption) (g2.mono (Below.size (by assumption)))
                | exact Below.trans (by assumption) (g1.mono (Below.size (by assumption)))
                | go_keep)
              (first
                | (go_at_call 8; refine (HX1 _ (by assumption)).mono ?_; rintro e w1 ⟨v1, rfl, t1, g1⟩)
                | (go_at_call 8; refine (HX2 _ (by assumption)).mono ?_; rintro e w2 ⟨v2, rfl, t2, g2⟩))
            all_goals
              obtain ⟨ga, ca, rfl, hca, _, hga, ata⟩ := t1.open (by simp)
              obtain ⟨gb, cb, rfl, hcb, _, hgb, atb⟩ := t2.open (by simp)
              have g2s := g2.size
              have ata := ata.step hga g2
              have y0 := (ata 0 (by simp)).1
              have y2 := (ata 0 (by simp)).2.2
              have y3 := (ata 1 (by simp)).1
              have x0 := (atb 0 (by simp)).1
              have x2 := (atb 0 (by simp)).2.2
              simp only [List.getElem_cons_zero, List.getElem_cons_succ, Nat.zero_mul, Nat.zero_add, Nat.one_mul] at y0 y2 y3 x0 x2
              have q1 : ((m + 2 : Nat) : Int) = (y.size : Int) := by have := E3.out; omega
              have q2 : ((m + 2 - 1 : Nat) : Int) = (y.size : Int) - 1 := by have := E3.out; omega
              rw [q1] at y2
              rw [q2] at x2
              have HB2 : Hid (Below w.heap.size w w2) := Lib.hid (by assumption)
              have e1 := EE1.out
              simp only [List.length_cons, List.length_nil] at hca hcb ⊢
              clear t1 t2 g1 g2 ata atb q1 q2 hwr k1 k2 k3 k4 k5 k6 k7 k8 k9
              have hga2 : ga < w2.heap.size := Nat.lt_of_lt_of_le hga g2s
              go_wp2_with fail
              refine (HX3 w2 HB2.out).mono ?_
              rintro e w3 ⟨rfl, b3⟩
              have y0 := (b3.cell (p := ⟨ga, 0, none⟩) hga2).trans y0
              have y2 := (b3.cell (p := ⟨ga, 2, none⟩) hga2).trans y2
              have y3 := (b3.cell (p := ⟨ga, 3, none⟩) hga2).trans y3
              have x0 := (b3.cell (p := ⟨gb, 0, none⟩) hgb).trans x0
              have x2 := (b3.cell (p := ⟨gb, 2, none⟩) hgb).trans x2
              have HB3 := Lib.hid (HB2.out.trans (b3.mono HB2.out.size))
              have HX4 := HAl w3 HB3.out
              clear b3
              go_wp2_with fail
              refine HX4.mono ?_
              rintro e w4 ⟨rfl, b4⟩
              go_wp2_with fail
              go_ret
              exact ⟨rfl, HB3.out.trans (b4.mono HB3.out.size)⟩
end Go.Proofs.YtnkgmddaodbpcaaDoor
