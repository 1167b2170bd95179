/-
  The document's Open.
-/
import Derived.Test.YtpgmlagkpigdjaaVis
import Derived.Maps.AppendAt
namespace Go.Proofs.Ytpgmlagkpigdjaa
open Go.RowKit
set_option maxRecDepth 20000
set_option linter.unusedVariables false
set_option linter.unusedSimpArgs false

def setV (via : Int) : Bn → Bn
  | .mk h ps qs => .mk { h with via := via } ps qs
theorem setV_h (via : Int) (x : Bn) : (setV via x).h = { x.h with via := via } := by cases x; rfl
theorem setV_ps (via : Int) (x : Bn) : (setV via x).ps = x.ps := by cases x; rfl
theorem setV_qs (via : Int) (x : Bn) : (setV via x).qs = x.qs := by cases x; rfl
/-- What is bound behind an open, by the document. -/
def openN (l parts : List Bn) (via : Int) : List Bn := l ++ (visN parts).map (setV via)
theorem OwnN.kept {w w' : World} {base : Nat} {v : Value} {l : List Bn} {row : Option Nat} (h : OwnN w base v l) (hg : w.grownBy w' row) (hne : v.ownBlock = none ∨ v.ownBlock ≠ row) : OwnN w' base v l := World.ownsRow.kept h hg hne
theorem rows_news {W : World} {b o : Nat} {l : List Bn} (h : ∀ i x, l[i]? = some x → BnAt W b (o + i * 6) x.h) : ∀ j u, (hcells (l.map Bn.h))[j]? = some u → W.cell? ((⟨b, o, none⟩ : Addr).add j) = some u := by
  intro j u hj
  have ha : ((⟨b, o, none⟩ : Addr).add j) = ⟨b, o + j, none⟩ := by unfold Addr.add; split <;> simp_all
  rw [ha]
  have hlt : j < l.length * 6 := by have := (List.getElem?_eq_some_iff.1 hj).1; rw [hcells_length, List.length_map] at this; exact this
  have hq : j / 6 < l.length := by omega
  obtain ⟨v, hv⟩ : ∃ v, l[j / 6]? = some v := ⟨_, List.getElem?_eq_getElem hq⟩
  have hg := hcells_get (l.map Bn.h) (j / 6) v.h (by simp [hv]) (j % 6) (by omega)
  have e : j / 6 * 6 + j % 6 = j := by omega
  rw [e, hj] at hg
  obtain ⟨a0, a1, a2, a3, a4, a5⟩ := h _ v hv
  have hr : j % 6 = 0 ∨ j % 6 = 1 ∨ j % 6 = 2 ∨ j % 6 = 3 ∨ j % 6 = 4 ∨ j % 6 = 5 := by omega
  rcases hr with hr | hr | hr | hr | hr | hr
  · rw [hr] at hg; rw [show o + j = o + j / 6 * 6 by omega, a0, hg]; rfl
  · rw [hr] at hg; rw [show o + j = o + j / 6 * 6 + 1 by omega, a1, hg]; rfl
  · rw [hr] at hg; rw [show o + j = o + j / 6 * 6 + 2 by omega, a2, hg]; rfl
  · rw [hr] at hg; rw [show o + j = o + j / 6 * 6 + 3 by omega, a3, hg]; rfl
  · rw [hr] at hg; rw [show o + j = o + j / 6 * 6 + 4 by omega, a4, hg]; rfl
  · rw [hr] at hg; rw [show o + j = o + j / 6 * 6 + 5 by omega, a5, hg]; rfl
theorem one_rows (l : List Bn) : ∀ u ∈ hcells (l.map Bn.h), u.oneCell' = true := fun u hu => by
  obtain ⟨h, _, hv⟩ := List.mem_flatMap.1 hu
  exact oneN h u hv
theorem OwnN.bnIn {w : World} {base n c : Nat} {q : Option Addr} {l : List Bn} (h : OwnN w base (.slice q n c) l) : BnIn w q n c l := by
  obtain ⟨q', n', c', e, hb⟩ := h.bn
  simp only [Value.slice.injEq] at e
  obtain ⟨rfl, rfl, rfl⟩ := e
  exact hb
theorem sep_of {w1 w2 : World} {b0 : Nat} {v1 v2 : Value} {l A : List Bn} (h1 : OwnN w1 b0 v1 l) (h2 : OwnN w2 w1.heap.size v2 A) : v1.ownBlock = none ∨ v2.ownBlock ≠ v1.ownBlock := by
  cases h : v1.ownBlock with
  | none => exact .inl rfl
  | some g =>
    right
    intro e
    have a := World.ownsRow.lt h1 g h
    have b := World.ownsRow.lt h2 g e
    omega
theorem sep_kept {a b : Option Nat} (h : b = none ∨ a ≠ b) : a = none ∨ a ≠ b := by
  cases a with
  | none => exact .inl rfl
  | some x =>
    rcases h with rfl | h
    · exact .inr (by simp)
    · exact .inr h
set_option maxHeartbeats 8000000 in
theorem open13_any (w : World) (p : Option Addr) (n c : Nat) (l : List Bn) (pp : Option Addr) (pn pc : Nat) (parts : List Bn) (via : Int) (hb : BnIn w p n c l) (hpn : p = none → n = 0 ∧ c = 0) (hq : BnIn w pp pn pc parts) (hn9 : n ≤ 10000) (hp9 : pn ≤ 10000) :
    Calls Try.prog 13 #[.slice p n c, .slice pp pn pc, .int .i64 via] w (VisPost w (openN l parts via)) := by
  obtain ⟨i45, hi45, hy0, hy1, hy2⟩ : ∃ i45, Try.prog.info? 45 = some i45 ∧ i45.zero = some (.agg #[.int .i64 0, .string ByteArray.empty, .int .i64 0, .int .i64 0, .slice none 0 0, .slice none 0 0]) ∧ i45.size = 6 ∧ i45.bytes = 88 := by
    refine ⟨_, rfl, ?_, ?_, ?_⟩ <;> kernel_rfl
  have HB := Lib.hid hb
  have HQ := Lib.hid hq
  have HN : Hid (n = l.length) := Lib.hid hb.1
  have hmade : Hid ((w.alloc (.cells #[] 45)).ownsRow w.heap.size 45 6 (.slice (some ⟨w.heap.size, 0, none⟩) 0 0) 0 []) := Lib.hid (World.ownsRow_made w #[] 0 (Nat.le_refl _) (by unfold maxLen; omega) (by simp))
  have hb0 : Below w.heap.size w (w.alloc (.cells #[] 45)) := (Below.refl _ _).alloc (Nat.le_refl _) _
  have HB0 := Lib.hid hb0
  -- the list is put into a row of the call's own
  have key : ∀ (q : Option Addr), q = p → Calls Try.prog 13 #[.slice q n c, .slice pp pn pc, .int .i64 via] w (VisPost w (openN l parts via)) := by
    intro q hqp
    have HV : Hid (∀ W, Below w.heap.size w W → Calls Try.prog 25 #[.slice pp pn pc] W (VisPost W (visN parts))) := Lib.hid fun W hW => visible_any W pp pn pc parts (HQ.out.step hW) (by omega)
    have hlen : (hcells (l.map Bn.h)).length = n * 6 := by rw [hcells_length, List.length_map, HN.out]
    have hnews : ∀ ad, q = some ad → ∀ j u, (hcells (l.map Bn.h))[j]? = some u → (w.alloc (.cells #[] 45)).cell? (ad.add j) = some u := fun ad had => by
      obtain ⟨hn1, h0' | ⟨gb, ob, he, hcb, hgb, hat⟩⟩ := HB.out
      · intro j u hj
        have : l = [] := List.eq_nil_of_length_eq_zero (by omega)
        rw [this] at hj; simp [hcells] at hj
      · rw [← hqp, had] at he
        obtain rfl := Option.some.inj he
        exact rows_news (fun i x hx => (hat i x hx).step hgb HB0.out)
    have HLEN := Lib.hid hlen
    have HNEWS := Lib.hid hnews
    have hap : ∀ (out : World → Value → Prop), out = (fun W v => W.ownsRow w.heap.size 45 6 v n (hcells (l.map Bn.h)) ∧ Below w.heap.size w W) → True := fun _ _ => trivial
    clear hb hq hlen hnews hap hb0
    unfold openN
    cases q with
    | none =>
      obtain ⟨rfl, rfl⟩ := hpn hqp.symm
      have HB1 : Hid (Below w.heap.size w (w.alloc (.cells #[] 45))) := HB0
      have HO1 : Hid (OwnN (w.alloc (.cells #[] 45)) w.heap.size (.slice (some ⟨w.heap.size, 0, none⟩) 0 0) l) := Lib.hid (by
        have hl : l = [] := List.eq_nil_of_length_eq_zero HN.out.symm
        rw [hl]; exact hmade.out)
      subst hqp
      clear HNEWS HLEN hpn HB
      obtain ⟨W1, hW1⟩ : ∃ W1, W1 = w.alloc (.cells #[] 45) := ⟨_, rfl⟩
      rw [← hW1] at HB1 HO1
      have HWE := Lib.hid hW1
      clear hmade HB0 hW1
      go_enter Try.func13, Try.ntmps13
      go_wp2_with fail
      rw [← HWE.out]
      refine (HV.out _ HB1.out).mono ?_
      rintro e w2 ⟨v2, rfl, ho2, hb2⟩; obtain ⟨q2, n2, c2, rfl, hbn2⟩ := ho2.bn; have HS := Lib.hid ho2; have HN2 := Lib.hid hbn2.1; have HB2 := Lib.hid (HB1.out.trans (hb2.mono HB1.out.size)); have HO2 := Lib.hid (HO1.out.step hb2); have HSEP := Lib.hid (sep_of HO1.out ho2); clear hbn2 ho2 hb2
      go_wp2_with fail
      have hn2 : n2 ≤ 10000 := by have := HN2.out; have h2 := visToN_len parts parts.length; have h3 := HQ.out.1; unfold visN at this; omega
      generalize visN parts = A at *
      go_loopw [7, 9] (fun v i wr => ∃ k : Nat, k ≤ n2 ∧ i = .int .i64 k ∧ Hid (OwnN wr w.heap.size v (l ++ (A.take k).map (setV via))) ∧ Hid (OwnN wr W1.heap.size (.slice q2 n2 c2) A) ∧ Hid (v.ownBlock = none ∨ (Value.slice q2 n2 c2).ownBlock ≠ v.ownBlock) ∧ Hid (Below w.heap.size w wr)) (fun _ i _ => n2 - (intOf i).toNat)
      case atStart => exact ⟨0, by omega, rfl, Lib.hid (by simpa using HO2.out), HS, HSEP, HB2⟩
      case round =>
        obtain ⟨k, hk, rfl, HO, HSS, HSP, HBW⟩ := hrel
        by_cases hlt : k < n2
        · obtain ⟨hn1, h0' | ⟨gb, ob, rfl, hcb, hgb, hat⟩⟩ := HSS.out.bnIn
          · omega
          obtain ⟨y, hy⟩ : ∃ y, A[k]? = some y := ⟨_, List.getElem?_eq_getElem (by omega)⟩
          obtain ⟨v0, v1, v2, v3, v4, v5⟩ := hat k y hy
          have r1 : (0 : Int) ≤ (k : Int) := by omega
          have r2 : (k : Int) < (n2 : Int) := by omega
          have hbz := HBW.out.size
          have HTA : Hid (l ++ (A.take (k + 1)).map (setV via) = (l ++ (A.take k).map (setV via)) ++ [setV via y]) := Lib.hid (by rw [List.take_add_one, hy]; simp)
          have hll : (l ++ (A.take k).map (setV via)).length ≤ 20000 := by have := HN.out; simp; omega
          have HYH := Lib.hid (setV_h via y)
          generalize y.h = h at *
          have hrow := HO.out
          unfold OwnN at hrow
          have hbx : (hcells ((l ++ (A.take k).map (setV via)).map Bn.h)).length = (l ++ (A.take k).map (setV via)).length * 6 := by rw [hcells_length, List.length_map]
          have HNW : Hid (∀ j u, ({ h with via := via } : Bh).cells[j]? = some u → ((wr.alloc (.cells #[.int .i64 h.k.1, .string h.k.2, .int .i64 h.dc, .int .i64 via, .slice h.pp h.pn h.pc, .slice h.qp h.qn h.qc] 45)).alloc (.cells #[.int .i64 h.k.1, .string h.k.2, .int .i64 h.dc, .int .i64 via, .slice h.pp h.pn h.pc, .slice h.qp h.qn h.qc] 45)).cell? ((⟨wr.heap.size + 1, 0, none⟩ : Addr).add j) = some u) := Lib.hid (by
            have := newsN (wr.alloc (.cells #[.int .i64 h.k.1, .string h.k.2, .int .i64 h.dc, .int .i64 via, .slice h.pp h.pn h.pc, .slice h.qp h.qn h.qc] 45)) { h with via := via }
            rwa [show (wr.alloc (.cells #[.int .i64 h.k.1, .string h.k.2, .int .i64 h.dc, .int .i64 via, .slice h.pp h.pn h.pc, .slice h.qp h.qn h.qc] 45)).heap.size = wr.heap.size + 1 by simp] at this)
          have HAL : Hid (Below wr.heap.size wr ((wr.alloc (.cells #[.int .i64 h.k.1, .string h.k.2, .int .i64 h.dc, .int .i64 via, .slice h.pp h.pn h.pc, .slice h.qp h.qn h.qc] 45)).alloc (.cells #[.int .i64 h.k.1, .string h.k.2, .int .i64 h.dc, .int .i64 via, .slice h.pp h.pn h.pc, .slice h.qp h.qn h.qc] 45))) := Lib.hid (((Below.refl _ _).alloc (Nat.le_refl _) _).alloc (by simp) _)
          clear hat hy hn1
          go_wp2_with (first
            | (at_builtin; refine wpList_append_own_at _ rfl _ _ 22 rfl w.heap.size 45 i45 _ 6 88 Try.underlying22 hi45 hy0 hy1 hy2 rfl (by decide) _ _ _ rfl (World.ownsRow.alloc (World.ownsRow.alloc hrow _) _) ⟨_, 0, none⟩ 1 1 ({ h with via := via } : Bh).cells rfl rfl HNW.out (oneN _) (by unfold maxLen; omega) (by omega) (by simp; omega) ?_; intro v' w3 hown' hg3 hnil3 hloc3; have HO' := Lib.hid hown'; have HLC := Lib.hid hloc3; have HSS3 := Lib.hid ((HSS.out.step HAL.out).kept hg3 (sep_kept HSP.out)); have HG3 := Lib.hid (((HBW.out.alloc hbz _).alloc (by simp; omega) _).grown hg3 (by simp; omega) (fun j hj => (World.ownsRow.lt hrow j hj).1)); clear hown' hg3 hnil3 hloc3)
            | go_in)
          refine ⟨⟨k + 1, by omega, by go_num, Lib.hid ?_, HSS3, Lib.hid ?_, HG3⟩, by simp [intOf]; omega⟩
          · rw [HTA.out]
            have := HO'.out
            rw [← HYH.out] at this
            exact ownN_snoc this
          · rcases HLC.out with hc | hc
            · rw [hc]; exact HSP.out
            · right
              intro e
              have hb := (World.ownsRow.lt HSS.out _ (e.trans hc)).2
              simp at hb
              omega
        · have hkn : k = n2 := by omega
          have HF : Hid (OwnN wr w.heap.size u7 (l ++ A.map (setV via))) := Lib.hid (by have := HO.out; rw [hkn, HN2.out, List.take_length] at this; exact this)
          clear hkn HO
          go_wp2_with fail
          go_ret
          exact ⟨_, rfl, HF.out, HBW.out⟩
    | some ad =>
      subst hqp
      have hbz0 : w.heap.size ≤ (w.alloc (.cells #[] 45)).heap.size := HB0.out.size
      go_enter Try.func13, Try.ntmps13
      go_wp2_with (first
        | (at_builtin; refine wpList_append_own _ rfl _ _ 22 rfl w.heap.size 45 i45 _ 6 88 Try.underlying22 hi45 hy0 hy1 hy2 rfl (by decide) _ _ _ rfl hmade.out ad n c (hcells (l.map Bn.h)) rfl HLEN.out (HNEWS.out ad rfl) (one_rows l) (by unfold maxLen; omega) (by omega) hbz0 ?_; intro v1 W1 hown' hg3 hnil3; have HO1 : Hid (OwnN W1 w.heap.size v1 l) := Lib.hid (by unfold OwnN; rw [← HN.out]; simpa using hown'); have HB1 := Lib.hid (HB0.out.grown hg3 hbz0 (fun j hj => (World.ownsRow.lt hmade.out j hj).1)); clear hown' hg3 hnil3)
        | (go_at_call 25; refine (HV.out _ HB1.out).mono ?_; rintro e w2 ⟨v2, rfl, ho2, hb2⟩; obtain ⟨q2, n2, c2, rfl, hbn2⟩ := ho2.bn; have HS := Lib.hid ho2; have HN2 := Lib.hid hbn2.1; have HB2 := Lib.hid (HB1.out.trans (hb2.mono HB1.out.size)); have HO2 := Lib.hid (HO1.out.step hb2); have HSEP := Lib.hid (sep_of HO1.out ho2); clear hbn2 ho2 hb2)
        | go_in)
      have hn2 : n2 ≤ 10000 := by have := HN2.out; have h2 := visToN_len parts parts.length; have h3 := HQ.out.1; unfold visN at this; omega
      generalize visN parts = A at *
      go_loopw [7, 9] (fun v i wr => ∃ k : Nat, k ≤ n2 ∧ i = .int .i64 k ∧ Hid (OwnN wr w.heap.size v (l ++ (A.take k).map (setV via))) ∧ Hid (OwnN wr W1.heap.size (.slice q2 n2 c2) A) ∧ Hid (v.ownBlock = none ∨ (Value.slice q2 n2 c2).ownBlock ≠ v.ownBlock) ∧ Hid (Below w.heap.size w wr)) (fun _ i _ => n2 - (intOf i).toNat)
      case atStart => exact ⟨0, by omega, rfl, Lib.hid (by simpa using HO2.out), HS, HSEP, HB2⟩
      case round =>
        obtain ⟨k, hk, rfl, HO, HSS, HSP, HBW⟩ := hrel
        by_cases hlt : k < n2
        · obtain ⟨hn1, h0' | ⟨gb, ob, rfl, hcb, hgb, hat⟩⟩ := HSS.out.bnIn
          · omega
          obtain ⟨y, hy⟩ : ∃ y, A[k]? = some y := ⟨_, List.getElem?_eq_getElem (by omega)⟩
          obtain ⟨v0, v1, v2, v3, v4, v5⟩ := hat k y hy
          have r1 : (0 : Int) ≤ (k : Int) := by omega
          have r2 : (k : Int) < (n2 : Int) := by omega
          have hbz := HBW.out.size
          have HTA : Hid (l ++ (A.take (k + 1)).map (setV via) = (l ++ (A.take k).map (setV via)) ++ [setV via y]) := Lib.hid (by rw [List.take_add_one, hy]; simp)
          have hll : (l ++ (A.take k).map (setV via)).length ≤ 20000 := by have := HN.out; simp; omega
          have HYH := Lib.hid (setV_h via y)
          generalize y.h = h at *
          have hrow := HO.out
          unfold OwnN at hrow
          have hbx : (hcells ((l ++ (A.take k).map (setV via)).map Bn.h)).length = (l ++ (A.take k).map (setV via)).length * 6 := by rw [hcells_length, List.length_map]
          have HNW : Hid (∀ j u, ({ h with via := via } : Bh).cells[j]? = some u → ((wr.alloc (.cells #[.int .i64 h.k.1, .string h.k.2, .int .i64 h.dc, .int .i64 via, .slice h.pp h.pn h.pc, .slice h.qp h.qn h.qc] 45)).alloc (.cells #[.int .i64 h.k.1, .string h.k.2, .int .i64 h.dc, .int .i64 via, .slice h.pp h.pn h.pc, .slice h.qp h.qn h.qc] 45)).cell? ((⟨wr.heap.size + 1, 0, none⟩ : Addr).add j) = some u) := Lib.hid (by
            have := newsN (wr.alloc (.cells #[.int .i64 h.k.1, .string h.k.2, .int .i64 h.dc, .int .i64 via, .slice h.pp h.pn h.pc, .slice h.qp h.qn h.qc] 45)) { h with via := via }
            rwa [show (wr.alloc (.cells #[.int .i64 h.k.1, .string h.k.2, .int .i64 h.dc, .int .i64 via, .slice h.pp h.pn h.pc, .slice h.qp h.qn h.qc] 45)).heap.size = wr.heap.size + 1 by simp] at this)
          have HAL : Hid (Below wr.heap.size wr ((wr.alloc (.cells #[.int .i64 h.k.1, .string h.k.2, .int .i64 h.dc, .int .i64 via, .slice h.pp h.pn h.pc, .slice h.qp h.qn h.qc] 45)).alloc (.cells #[.int .i64 h.k.1, .string h.k.2, .int .i64 h.dc, .int .i64 via, .slice h.pp h.pn h.pc, .slice h.qp h.qn h.qc] 45))) := Lib.hid (((Below.refl _ _).alloc (Nat.le_refl _) _).alloc (by simp) _)
          clear hat hy hn1
          go_wp2_with (first
            | (at_builtin; refine wpList_append_own_at _ rfl _ _ 22 rfl w.heap.size 45 i45 _ 6 88 Try.underlying22 hi45 hy0 hy1 hy2 rfl (by decide) _ _ _ rfl (World.ownsRow.alloc (World.ownsRow.alloc hrow _) _) ⟨_, 0, none⟩ 1 1 ({ h with via := via } : Bh).cells rfl rfl HNW.out (oneN _) (by unfold maxLen; omega) (by omega) (by simp; omega) ?_; intro v' w3 hown' hg3 hnil3 hloc3; have HO' := Lib.hid hown'; have HLC := Lib.hid hloc3; have HSS3 := Lib.hid ((HSS.out.step HAL.out).kept hg3 (sep_kept HSP.out)); have HG3 := Lib.hid (((HBW.out.alloc hbz _).alloc (by simp; omega) _).grown hg3 (by simp; omega) (fun j hj => (World.ownsRow.lt hrow j hj).1)); clear hown' hg3 hnil3 hloc3)
            | go_in)
          refine ⟨⟨k + 1, by omega, by go_num, Lib.hid ?_, HSS3, Lib.hid ?_, HG3⟩, by simp [intOf]; omega⟩
          · rw [HTA.out]
            have := HO'.out
            rw [← HYH.out] at this
            exact ownN_snoc this
          · rcases HLC.out with hc | hc
            · rw [hc]; exact HSP.out
            · right
              intro e
              have hb := (World.ownsRow.lt HSS.out _ (e.trans hc)).2
              simp at hb
              omega
        · have hkn : k = n2 := by omega
          have HF : Hid (OwnN wr w.heap.size u7 (l ++ A.map (setV via))) := Lib.hid (by have := HO.out; rw [hkn, HN2.out, List.take_length] at this; exact this)
          clear hkn HO
          go_wp2_with fail
          go_ret
          exact ⟨_, rfl, HF.out, HBW.out⟩
  exact key p rfl
end Go.Proofs.Ytpgmlagkpigdjaa
