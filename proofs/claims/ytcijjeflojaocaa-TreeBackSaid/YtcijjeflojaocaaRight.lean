/-
  Right of a branch.
-/
import Derived.Test.YtcijjeflojaocaaKids
namespace Go.Proofs.Ytcijjeflojaocaa
open Go.RowKit
set_option linter.unusedVariables false
set_option linter.unusedSimpArgs false

mutual
/-- Is a branch right, as the program goes through it? -/
def Br.right : Br → Bool
  | .mk h ks => decide (0 ≤ h.f) && (h.ns.all (fun x => decide (h.f ≤ x) && decide (x < h.t)) && rightsFrom h.f h.t ks)
def rightsFrom (free t : Int) : List Br → Bool
  | [] => decide (free ≤ t)
  | b :: r => decide (free ≤ b.h.f) && (b.right && rightsFrom b.h.t t r)
end

set_option maxHeartbeats 4000000 in
theorem right1_any (Bl : Nat) (b : Br) : ∀ (pb po : Nat) (w : World), w.cell? ⟨Bl, 0, none⟩ = some (.func (.func 37) #[] #[.pointer (some ⟨Bl, 0, none⟩)]) → Bl < w.heap.size → BrAt w pb po b.h → pb < w.heap.size → b.Lies w → b.Fits → b.size ≤ 1000 →
    Calls Try.prog 37 #[.pointer (some ⟨pb, po, none⟩), .pointer (some ⟨Bl, 0, none⟩)] w fun e w' => e = .returned (.bool b.right) ∧ Below w.heap.size w w' := by
  induction b using Br.ind with
  | hP h ks ih =>
    intro pb po w hbl hblw hat hpb hl hfit hsz
    obtain ⟨hnames, hkids, hall⟩ := (lies_iff _ _).1 hl
    simp only [Br.Fits, fitsAll_iff] at hfit
    simp only [Br.h, Br.ks, Br.size] at hnames hkids hall hat hsz
    obtain ⟨hk, hm, hf, ht, np, nn, nc, ns, kp, kn, kc⟩ := h
    obtain ⟨hfit1, hfit2⟩ := hfit
    have hkn : kn = ks.length := hkids.1
    subst hkn
    have hnn : nn = ns.length := hnames.1
    have hlen := sizes_len ks
    obtain ⟨a0, a1, a2, a3, a4, a5⟩ := hat
    simp only at a2 a3 a4 a5 hfit1
    have HR : Hid ((Br.mk ⟨hk, hm, hf, ht, np, nn, nc, ns, kp, ks.length, kc⟩ ks).right = (decide (0 ≤ hf) && (ns.all (fun x => decide (hf ≤ x) && decide (x < ht)) && rightsFrom hf ht ks))) := Lib.hid (by simp only [Br.right])
    have HNM := Lib.hid hnames
    have HK := Lib.hid hkids
    have HL := Lib.hid hall
    have HI := Lib.hid ih
    have HF2 := Lib.hid hfit2
    have HNN := Lib.hid hnn
    have hnb : nn ≤ 17592186044416 := by omega
    generalize (Br.mk ⟨hk, hm, hf, ht, np, nn, nc, ns, kp, ks.length, kc⟩ ks).right = q at *
    clear hnames hkids hall ih hfit2 hl hnn a0 a1 hfit1
    by_cases h0 : hf < 0
    · have hq : q = false := by rw [HR.out]; simp; intro h1; omega
      subst hq
      go_enter Try.func37, Try.ntmps37
      go_wp2_with fail
      go_ret
      exact ⟨rfl, Below.refl _ _⟩
    · have HR : Hid (q = (ns.all (fun x => decide (hf ≤ x) && decide (x < ht)) && rightsFrom hf ht ks)) := Lib.hid (by rw [HR.out]; simp [show (0 : Int) ≤ hf by omega])
      go_enter Try.func37, Try.ntmps37
      go_wp2_with fail
      go_loopw [19] (fun iv wr => w = wr ∧ ∃ i : Nat, i ≤ nn ∧ iv = .int .i64 i ∧ Hid (∀ j (h : j < ns.length), j < i → hf ≤ ns[j] ∧ ns[j] < ht)) (fun iv _ => nn - (intOf iv).toNat)
      case atStart => exact ⟨rfl, 0, by omega, rfl, Lib.hid fun j _ h => by omega⟩
      case round =>
        obtain ⟨rfl, i, hi, rfl, HE⟩ := hrel
        by_cases hlt : i < nn
        · obtain ⟨b1, off, rfl, hc1, hb1, hatn⟩ := HNM.out.2.resolve_left (by omega)
          have hil : i < ns.length := by rw [← HNN.out]; exact hlt
          have c0 : w.cell? ⟨b1, off + i, none⟩ = some (.int .i64 ns[i]) := hatn i hil
          have hr1 : (0 : Int) ≤ (i : Int) := by omega
          have hr2 : (i : Int) < (nn : Int) := by omega
          have HX : Hid (¬ (hf ≤ ns[i] ∧ ns[i] < ht) → q = false) := Lib.hid fun hx => by
            have : (ns.all (fun x => decide (hf ≤ x) && decide (x < ht))) = false := by
              rw [List.all_eq_false]
              refine ⟨ns[i], List.getElem_mem hil, ?_⟩
              simpa [Bool.and_eq_true] using hx
            rw [HR.out, this]; rfl
          have HE2 : Hid (hf ≤ ns[i] → ns[i] < ht → ∀ j (h : j < ns.length), j < i + 1 → hf ≤ ns[j] ∧ ns[j] < ht) := Lib.hid fun h1 h2 j hj hji => by
            rcases Nat.lt_or_ge j i with h3 | h3
            · exact HE.out j hj h3
            · obtain rfl : j = i := by omega
              exact ⟨h1, h2⟩
          clear hatn
          generalize ns[i] = x at *
          by_cases hx1 : x < hf
          · have hq := HX.out (by omega)
            subst hq
            go_wp2_with fail
            go_ret
            exact ⟨rfl, Below.refl _ _⟩
          · by_cases hx2 : ht ≤ x
            · have hq := HX.out (by omega)
              subst hq
              go_wp2_with fail
              go_ret
              exact ⟨rfl, Below.refl _ _⟩
            · have HE3 := Lib.hid (HE2.out (by omega) (by omega))
              go_wp2_with fail
              go_roundw
              case rel => exact ⟨by first | trivial | rfl, i + 1, by omega, by go_num, HE3⟩
              case measure => simp [intOf]; omega
        · have HR2 : Hid (q = rightsFrom hf ht ks) := Lib.hid (by
            have : (ns.all (fun x => decide (hf ≤ x) && decide (x < ht))) = true := by
              rw [List.all_eq_true]
              intro x hx
              obtain ⟨j, hj, rfl⟩ := List.getElem_of_mem hx
              have := HE.out j hj (by rw [← HNN.out] at hj; omega)
              simp [this.1, this.2]
            rw [HR.out, this, Bool.true_and])
          go_wp2_with fail
          go_loopw [47, 6] (fun iv fv wr => ∃ (i : Nat) (free : Int), i ≤ ks.length ∧ iv = .int .i64 i ∧ fv = .int .i64 free ∧ Hid (q = rightsFrom free ht (ks.drop i)) ∧ Below w.heap.size w wr) (fun iv _ _ => ks.length - (intOf iv).toNat)
          case atStart => exact ⟨0, hf, by omega, rfl, rfl, Lib.hid (by rw [HR2.out]; rfl), Below.refl _ _⟩
          case round =>
            obtain ⟨k, free, hk0, rfl, rfl, HQ, hbe⟩ := hrel
            have b3 := (hbe.cell (p := ⟨pb, _, none⟩) hpb).trans a3
            have b5 := (hbe.cell (p := ⟨pb, _, none⟩) hpb).trans a5
            have bbl := (hbe.cell (p := ⟨Bl, _, none⟩) hblw).trans hbl
            have hz := hbe.size
            by_cases hlt2 : k < ks.length
            · obtain ⟨b1, off, rfl, hcap, hb1, hkat⟩ := HK.out.2.resolve_left (by omega)
              obtain ⟨c0, c1, c2, c3, c4, c5⟩ := (hkat k hlt2).step hb1 hbe
              have hmem := List.getElem_mem hlt2
              have hxs : ks[k].size ≤ 1000 := by have := size_le_sizes hmem; omega
              have HX := Lib.hid (HI.out ks[k] hmem b1 (off + k * 6) wr bbl (by omega) ((hkat k hlt2).step hb1 hbe) (by omega) ((HL.out _ hmem).step _ hbe) (HF2.out _ hmem) hxs)
              have HD : Hid (q = (decide (free ≤ ks[k].h.f) && (ks[k].right && rightsFrom ks[k].h.t ht (ks.drop (k + 1))))) := Lib.hid (by
                rw [HQ.out, List.drop_eq_getElem_cons hlt2]; simp only [rightsFrom])
              have hr1 : (0 : Int) ≤ (k : Int) := by omega
              have hr2 : (k : Int) < (ks.length : Int) := by omega
              have HB := Lib.hid hbe
              clear hkat hmem hxs hbe
              generalize ks[k] = x at *
              by_cases hx1 : x.h.f < free
              · have hq : q = false := by rw [HD.out]; simp; intro h1; omega
                subst hq
                go_wp2_with fail
                go_ret
                exact ⟨rfl, HB.out⟩
              · cases hx2 : x.right
                · have hq : q = false := by rw [HD.out, hx2]; simp
                  rw [hx2] at HX
                  subst hq
                  go_wp2_with fail
                  refine HX.out.mono ?_
                  rintro e w2 ⟨rfl, hb2⟩
                  have HB2 := Lib.hid (HB.out.trans (hb2.mono hz))
                  clear hb2
                  go_wp2_with fail
                  go_ret
                  exact ⟨rfl, HB2.out⟩
                · have HD2 : Hid (q = rightsFrom x.h.t ht (ks.drop (k + 1))) := Lib.hid (by rw [HD.out, hx2]; simp [show free ≤ x.h.f by omega])
                  rw [hx2] at HX
                  go_wp2_with fail
                  refine HX.out.mono ?_
                  rintro e w2 ⟨rfl, hb2⟩
                  have d3 := (hb2.cell (p := ⟨b1, _, none⟩) (Nat.lt_of_lt_of_le hb1 hz)).trans c3
                  have HB2 := Lib.hid (HB.out.trans (hb2.mono hz))
                  clear hb2
                  go_wp2_with fail
                  go_roundw
                  case rel => exact ⟨k + 1, x.h.t, by omega, by go_num, rfl, HD2, HB2.out⟩
                  case measure => simp [intOf]; omega
            · have hd : q = decide (free ≤ ht) := by rw [HQ.out, List.drop_eq_nil_of_le (by omega)]; simp only [rightsFrom]
              have HD := Lib.hid hd
              have HB := Lib.hid hbe
              clear hd hbe
              go_wp2_with fail
              go_ret
              exact ⟨ret_bool HD.out.symm, HB.out⟩

theorem right_any (b : Br) (w : World) (hl : b.Lies w) (hf : b.Fits) (hs : b.size ≤ 1000) :
    Calls Try.prog 26 #[b.h.val] w fun e w' => e = .returned (.bool b.right) ∧ Below w.heap.size w w' := by
  obtain ⟨w0, e0, c0, l0, b0, s0⟩ := boxed w b hl
  have hb1 : Below w0.heap.size w0 (w0.alloc (.cells #[.func (.func 37) #[] #[.pointer (some ⟨w.heap.size + 1, 0, none⟩)]] 61)) := (Below.refl _ _).alloc (Nat.le_refl _) _
  have k1 := heap_alloc_new w0 (.cells #[.func (.func 37) #[] #[.pointer (some ⟨w.heap.size + 1, 0, none⟩)]] 61)
  rw [s0] at k1
  have HX := Lib.hid (right1_any (w.heap.size + 1) b w.heap.size 0 _ (by rw [Lib.cell_of_heap k1]; rfl) (by simp; omega) (c0.step (by omega) hb1) (by simp; omega) (l0.step _ hb1) hf hs)
  have HB := Lib.hid (b0.trans (hb1.mono (by omega)))
  clear c0 l0 b0 hb1 k1 hl hf hs
  generalize b.right = q at *
  generalize b.h = h at *
  have hmf : ∀ (fn : Fn) (first cap : Array Value) (w : World), (Instr.makeFunc fn first cap).run Try.prog w = .ok (.func fn first cap) w := fun _ _ _ _ => rfl
  go_enter Try.func26, Try.ntmps26
  go_wp2_with fail
  rw [← e0]
  refine HX.out.mono ?_
  rintro e w2 ⟨rfl, hb2⟩
  have HB2 := Lib.hid (HB.out.trans (hb2.mono HB.out.size))
  clear hb2 e0 hmf
  go_wp2_with fail
  go_ret
  exact ⟨rfl, HB2.out⟩
end Go.Proofs.Ytcijjeflojaocaa
