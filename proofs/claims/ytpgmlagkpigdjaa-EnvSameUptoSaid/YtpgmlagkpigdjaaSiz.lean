/-
  The document's Size of bindings, and few.
-/
import Derived.Test.YtpgmlagkpigdjaaBn
namespace Go.Proofs.Ytpgmlagkpigdjaa
open Go.RowKit
set_option maxRecDepth 20000
set_option linter.unusedVariables false
set_option linter.unusedSimpArgs false

mutual
def Bn.size : Bn → Nat
  | .mk _ ps qs => 1 + sizes ps + sizes qs
def sizes : List Bn → Nat
  | [] => 0
  | b :: r => b.size + sizes r
end
theorem Bn.size_eq (b : Bn) : b.size = 1 + sizes b.ps + sizes b.qs := by cases b; simp only [Bn.size, Bn.ps, Bn.qs]
theorem sizes_len (l : List Bn) : l.length ≤ sizes l := by
  induction l with
  | nil => simp [sizes]
  | cons x r ih => have := x.size_eq; simp only [List.length_cons, sizes]; omega
theorem size_mem {b : Bn} {l : List Bn} (h : b ∈ l) : b.size ≤ sizes l := by
  induction l with
  | nil => cases h
  | cons x r ih =>
    simp only [sizes]
    rcases List.mem_cons.1 h with rfl | h
    · omega
    · have := ih h; omega
mutual
def rsB (m : Int) : Bn → Int
  | .mk _ ps qs => rsL m 0 ps + rsL m 0 qs
def rsL (most n : Int) : List Bn → Int
  | [] => n
  | b :: r => if n ≤ most then rsL most (n + 1 + rsB (most - n) b) r else n
end
theorem rsB_eq (m : Int) (b : Bn) : rsB m b = rsL m 0 b.ps + rsL m 0 b.qs := by cases b; simp only [rsB, Bn.ps, Bn.qs]
mutual
theorem rsB_bd : ∀ (b : Bn) (m : Int), 0 ≤ rsB m b ∧ rsB m b + 1 ≤ (b.size : Nat) ∧ (rsB m b ≤ m → rsB m b + 1 = (b.size : Nat))
  | .mk h ps qs, m => by
    have h1 := rsL_bd ps m 0 (by omega)
    have h2 := rsL_bd qs m 0 (by omega)
    simp only [rsB, Bn.size]
    refine ⟨by omega, by omega, fun h => ?_⟩
    have := h1.2.2 (by omega)
    have := h2.2.2 (by omega)
    omega
theorem rsL_bd : ∀ (l : List Bn) (m n : Int), 0 ≤ n → n ≤ rsL m n l ∧ rsL m n l ≤ n + (sizes l : Nat) ∧ (rsL m n l ≤ m → rsL m n l = n + (sizes l : Nat))
  | [], m, n, hn => by simp [rsL, sizes]
  | b :: r, m, n, hn => by
    simp only [rsL, sizes]
    by_cases hc : n ≤ m
    · rw [if_pos hc]
      have h1 := rsB_bd b (m - n)
      have h2 := rsL_bd r m (n + 1 + rsB (m - n) b) (by omega)
      refine ⟨by omega, by omega, fun h => ?_⟩
      have h3 := h2.2.2 h
      have h4 := h1.2.2 (by omega)
      omega
    · rw [if_neg hc]
      exact ⟨by omega, by omega, fun h => absurd h hc⟩
end
def SizePost (l : List Bn) (most : Int) (w : World) (e : Ending) (w' : World) : Prop := e = .returned (.int .i64 (rsL most 0 l)) ∧ ∃ d, w' = w.drewN d
theorem below_dN (w : World) (d : Nat) : Below w.heap.size w (w.drewN d) := below_drewN (Below.refl _ _) d
set_option maxHeartbeats 8000000 in
theorem size15 : ∀ (m : Nat) (l : List Bn), sizes l ≤ m → m ≤ 2000000 → ∀ (most : Int) (w : World) (p : Option Addr) (n c : Nat), 0 ≤ most → most ≤ 1000 → Bl w p n c l → Calls Try.prog 15 #[.slice p n c, .int .i64 most] w (SizePost l most w) := by
  intro m
  induction m using Nat.strongRecOn with
  | _ m ih =>
    intro l hl hm most w p n c h0 h1 hb
    have HB := Lib.hid hb.1
    have HA := Lib.hid hb.2
    have HL := Lib.hid hl
    have HM := Lib.hid hm
    have hn : n = l.length := hb.1.1
    have hnl : n ≤ 2000000 := by have := sizes_len l; omega
    have HN := Lib.hid hn
    have IH := Lib.hid ih
    clear hb hl hm hn ih
    go_enter Try.func15, Try.ntmps15
    go_wp2_with fail
    go_loopw [5, 6] (fun v i wr => ∃ (k : Nat) (x : Int), k ≤ n ∧ i = .int .i64 k ∧ v = .int .i64 x ∧ 0 ≤ x ∧ x ≤ 2000000 ∧ Hid (rsL most 0 l = rsL most x (l.drop k)) ∧ Hid (∃ d, wr = w.drewN d)) (fun _ i _ => n - (intOf i).toNat)
    case atStart => exact ⟨0, 0, by omega, rfl, rfl, by omega, by omega, Lib.hid rfl, Lib.hid ⟨0, rfl⟩⟩
    case round =>
      obtain ⟨k, x, hk, rfl, rfl, hx0, hx1, HR, HD⟩ := hrel
      have HBW : Hid (Below w.heap.size w wr) := Lib.hid (by obtain ⟨d, hd⟩ := HD.out; rw [hd]; exact below_dN w d)
      by_cases hlt : k < n
      · by_cases hxm : x ≤ most
        · obtain ⟨hn1, h0' | ⟨gb, ob, rfl, hcb, hgb, hat⟩⟩ := HB.out
          · omega
          obtain ⟨y, hy⟩ : ∃ y, l[k]? = some y := ⟨_, List.getElem?_eq_getElem (by omega)⟩
          have hym := List.mem_of_getElem? hy
          obtain ⟨_, _, _, _, v4, v5⟩ := (hat k y hy).step hgb HBW.out
          have hgb2 : gb < wr.heap.size := Nat.lt_of_lt_of_le hgb HBW.out.size
          have hly := (lies_iff _ _).1 ((allLie_iff _ _).1 HA.out y hym)
          have hsz := size_mem hym
          have hse := y.size_eq
          have hdr : l.drop k = y :: l.drop (k + 1) := by
            obtain ⟨hkl, he⟩ := List.getElem?_eq_some_iff.1 hy
            rw [List.drop_eq_getElem_cons hkl, he]
          have HR2 : Hid (rsL most 0 l = rsL most (x + 1 + rsL (most - x) 0 y.ps + rsL (most - x) 0 y.qs) (l.drop (k + 1))) := Lib.hid (by
            rw [HR.out, hdr]; simp only [rsL]; rw [if_pos hxm, rsB_eq]; congr 1; omega)
          have hb1 := rsL_bd y.ps (most - x) 0 (by omega)
          have hb2 := rsL_bd y.qs (most - x) 0 (by omega)
          have hb3 := rsL_bd l most 0 (by omega)
          have hb4 : x + 1 + rsL (most - x) 0 y.ps + rsL (most - x) 0 y.qs ≤ 2000000 := by
            have h5 := rsL_bd (l.drop (k + 1)) most (x + 1 + rsL (most - x) 0 y.ps + rsL (most - x) 0 y.qs) (by omega)
            have := HL.out
            have := HM.out
            rw [← HR2.out] at h5
            omega
          have H1 : Hid (∀ W, Below w.heap.size w W → Calls Try.prog 15 #[.slice y.h.pp y.h.pn y.h.pc, .int .i64 (most - x)] W (SizePost y.ps (most - x) W)) := Lib.hid fun W hW => IH.out (sizes y.ps) (by have := HL.out; omega) y.ps (Nat.le_refl _) (by have := HM.out; have := HL.out; omega) (most - x) W _ _ _ (by omega) (by omega) (Bl.step ⟨hly.1, hly.2.2.1⟩ hW)
          have H2 : Hid (∀ W, Below w.heap.size w W → Calls Try.prog 15 #[.slice y.h.qp y.h.qn y.h.qc, .int .i64 (most - x)] W (SizePost y.qs (most - x) W)) := Lib.hid fun W hW => IH.out (sizes y.qs) (by have := HL.out; omega) y.qs (Nat.le_refl _) (by have := HM.out; have := HL.out; omega) (most - x) W _ _ _ (by omega) (by omega) (Bl.step ⟨hly.2.1, hly.2.2.2⟩ hW)
          have HBQ : Hid (∀ d, Below w.heap.size w (wr.drewN d)) := Lib.hid fun d => below_drewN HBW.out d
          have HQ1 : Hid (∀ d, Calls Try.prog 15 #[.slice y.h.pp y.h.pn y.h.pc, .int .i64 (most - x)] (wr.drewN d) fun e w' => e = .returned (.int .i64 (rsL (most - x) 0 y.ps)) ∧ ∃ n, w' = wr.drewN n) := Lib.hid fun d => (H1.out _ (HBQ.out d)).mono fun e w' h => by
            obtain ⟨h1, d', h2⟩ := h
            exact ⟨h1, d + d', by rw [h2, World.drewN_drewN]⟩
          have HQ2 : Hid (∀ d, Calls Try.prog 15 #[.slice y.h.qp y.h.qn y.h.qc, .int .i64 (most - x)] (wr.drewN d) fun e w' => e = .returned (.int .i64 (rsL (most - x) 0 y.qs)) ∧ ∃ n, w' = wr.drewN n) := Lib.hid fun d => (H2.out _ (HBQ.out d)).mono fun e w' h => by
            obtain ⟨h1, d', h2⟩ := h
            exact ⟨h1, d + d', by rw [h2, World.drewN_drewN]⟩
          have r1 : (0 : Int) ≤ (k : Int) := by omega
          have r2 : (k : Int) < (n : Int) := by omega
          clear H1 H2
          have hq1 := HQ1.out
          have hq2 := HQ2.out
          clear HQ1 HQ2
          have b1 : 0 ≤ rsL (most - x) 0 y.ps := hb1.1
          have b2 : 0 ≤ rsL (most - x) 0 y.qs := hb2.1
          clear hat hy hym hly hsz hse hdr HR hb1 hb2 hb3 hn1
          generalize y.h.pp = pp at *
          generalize y.h.pn = pn at *
          generalize y.h.pc = pc at *
          generalize y.h.qp = qp at *
          generalize y.h.qn = qn at *
          generalize y.h.qc = qc at *
          generalize rsL (most - x) 0 y.ps = s1 at *
          generalize rsL (most - x) 0 y.qs = s2 at *
          go_wp2_with fail
          go_quiet (first | (with_reducible exact hq1 _) | (with_reducible exact hq2 _))
          go_wp2_with fail
          go_roundw
          case rel => exact ⟨k + 1, _, by omega, by go_num, rfl, by omega, by omega, HR2, Lib.hid (by obtain ⟨d, hd⟩ := HD.out; exact ⟨_, by rw [hd, World.drewN_drewN]⟩)⟩
          case measure => simp [intOf]; omega
        · have hdd : ∃ y r, l.drop k = y :: r := by
            cases hd : l.drop k with
            | nil => have := congrArg List.length hd; have := HN.out; simp at *; omega
            | cons y r => exact ⟨y, r, rfl⟩
          obtain ⟨y, r, hd⟩ := hdd
          have HF : Hid (rsL most 0 l = x) := Lib.hid (by rw [HR.out, hd]; simp only [rsL]; rw [if_neg hxm])
          clear hd HR
          go_wp2_with fail
          go_ret
          exact ⟨by rw [HF.out]; rfl, HD.out⟩
      · have HF : Hid (rsL most 0 l = x) := Lib.hid (by rw [HR.out, List.drop_eq_nil_of_le (by have := HN.out; omega)]; simp only [rsL])
        clear HR
        go_wp2_with fail
        go_ret
        exact ⟨by rw [HF.out]; rfl, HD.out⟩
theorem few_any (w : World) (p : Option Addr) (n c : Nat) (l : List Bn) (hb : Bl w p n c l) (hs : sizes l ≤ 2000000) :
    Calls Try.prog 6 #[.slice p n c] w fun e w' => ∃ b : Bool, e = .returned (.bool b) ∧ (b = true → sizes l ≤ 120) ∧ ∃ d, w' = w.drewN d := by
  have HZ : Hid (Calls Try.prog 15 #[.slice p n c, .int .i64 120] w (SizePost l 120 w)) := Lib.hid (size15 (sizes l) l (Nat.le_refl _) hs 120 w p n c (by omega) (by omega) hb)
  have hbd := rsL_bd l 120 0 (by omega)
  unfold SizePost at HZ
  have HC : Hid (rsL 120 0 l ≤ 120 → sizes l ≤ 120) := Lib.hid fun h => by have := hbd.2.2 h; omega
  clear hb hbd hs
  generalize rsL 120 0 l = s at *
  go_enter Try.func6, Try.ntmps6
  go_wp2_with (go_at_call 15; refine HZ.out.mono ?_; rintro e w1 ⟨rfl, hd⟩; have HD := Lib.hid hd; clear hd)
  go_ret
  exact ⟨_, rfl, fun h => HC.out (by simpa using h), HD.out⟩
end Go.Proofs.Ytpgmlagkpigdjaa
