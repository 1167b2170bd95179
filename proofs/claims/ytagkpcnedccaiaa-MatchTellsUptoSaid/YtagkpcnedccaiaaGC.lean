/-
  The walk that gathers links (match.go's gather, its closure): a pair that is begun.
-/
import Derived.Test.YtagkpcnedccaiaaGA
import Derived.Test.YtagkpcnedccaiaaGB
import Derived.Deep.CutRange
namespace Go.Proofs.Ytagkpcnedccaiaa
open Go.ChangeShapes Go.WideShapes Go.ChangeAt Go.RowKit Go.Deep
set_option maxRecDepth 20000
set_option linter.unusedVariables false
set_option linter.unusedSimpArgs false

theorem Spn.new' {w0 : World} {n : Nat} {T T' : List ((Option Nat × Option Nat) × Value)} {ls ls2 : List P2} (h : Spn w0 n T ls) (g : SNew w0 T T' ls2) (hp : ∃ m, ls2 = ls ++ m) : Spn w0 n T' ls2 := by
 obtain ⟨m, rfl⟩ := hp
 exact h.new g
theorem sizes_app (a b : List Bn) : sizes (a ++ b) = sizes a + sizes b := by
 induction a with
 | nil => simp [sizes]
 | cons x r ih => simp only [List.cons_append, sizes, ih]; omega
theorem sizes_take_le (V : List Bn) (k : Nat) : sizes (V.take k) ≤ sizes V := by
 have := sizes_app (V.take k) (V.drop k)
 rw [List.take_append_drop] at this; omega
set_option maxHeartbeats 16000000 in
theorem gat_fresh (w0 w : World) (NB b cm cl cw : Nat) (v : Value) (ls : List P2) (T : List ((Option Nat × Option Nat) × Value)) (a d : Option Nat) (x y : List Bn)
  (h : Gs w0 w NB b cm cl cw v ls T) (hB : Below w0.heap.size w0 w) (hb0 : w0.heap.size ≤ b ∧ w0.heap.size ≤ cl ∧ w0.heap.size ≤ NB) (hx : EnvIs w0 (a.bind at0) x) (hy : EnvIs w0 (d.bind at0) y) (hok : isOk (mt x y) = true) (hsp : Spn w0 (sizes x - 1) T ls) (hl : ls.length + sizes x ≤ 7000000) (hx4 : sizes x ≤ 4000)
  (hin : lkm T (a, d) = none)
  (IH : ∀ (x1 y1 : List Bn) (a1 d1 : Option Nat) (w1 : World) (v1 : Value) (ls1 : List P2) (T1 : List ((Option Nat × Option Nat) × Value)), sizes x1 < sizes x → Gs w0 w1 NB b cm cl cw v1 ls1 T1 → Below w0.heap.size w0 w1 → EnvIs w0 (a1.bind at0) x1 → EnvIs w0 (d1.bind at0) y1 → isOk (mt x1 y1) = true →
   Spn w0 (sizes x - 1) T1 ls1 → ls1.length + sizes x1 ≤ 7000000 →
   Calls Try.prog 38 #[.agg #[.pointer (a1.bind at0), .pointer (d1.bind at0)], .pointer (some ⟨cm, 0, none⟩), .pointer (some ⟨cl, 0, none⟩), .pointer (some ⟨cw, 0, none⟩)] w1 (GatPost w0 w1 NB b cm cl cw ls1 T1 x1 y1)) :
  Calls Try.prog 38 #[.agg #[.pointer (a.bind at0), .pointer (d.bind at0)], .pointer (some ⟨cm, 0, none⟩), .pointer (some ⟨cl, 0, none⟩), .pointer (some ⟨cw, 0, none⟩)] w (GatPost w0 w NB b cm cl cw ls T x y) := by
 obtain ⟨i48, hi48, hx0, hx1, hx2⟩ := info_parts info48
 obtain ⟨L, hL, hxr⟩ := hx
 obtain ⟨M, hM, hyr⟩ := hy
 have hx : EnvIs w0 (a.bind at0) x := ⟨L, hL, hxr⟩
 have hy : EnvIs w0 (d.bind at0) y := ⟨M, hM, hyr⟩
 have hLl : L.length ≤ 4000 := by have h1 := hxr.len; have h2 := sizes_len x; simp only [List.length_reverse, List.length_map] at h1; omega
 have hga : GoodB w0 a := by have := hx.nO; intro g hg; subst hg; exact this.2 g rfl
 have hgd : GoodB w0 d := by have := hy.nO; intro g hg; subst hg; exact this.2 g rfl
 obtain ⟨q, c, rfl, hps⟩ := own_slice h.own
 obtain ⟨W1, hW1⟩ : ∃ W1, W1 = w.alloc (.cells #[.pointer (a.bind at0), .pointer (d.bind at0)] 54) := ⟨_, rfl⟩
 have hb1 : Below w.heap.size w W1 := by rw [hW1]; exact (Below.refl _ _).alloc (Nat.le_refl _) _
 have hz1 : W1.heap.size = w.heap.size + 1 := by rw [hW1]; simp
 have h41 : W1.heap[w.heap.size]? = some (.cells #[.pointer (a.bind at0), .pointer (d.bind at0)] 54 (0, 0)) := by rw [hW1]; exact heap_new w _
 have h1 := h.step hb1
 have hB1 := hB.trans (hb1.mono hB.size)
 have e1 := look_run key71_ok Try.underlying78 W1 b T h1.tab (h1.gd.step hB1) (a, d) ⟨hga.step hB1, hgd.step hB1⟩ (zero81 W1) true
 rw [hin] at e1
 simp only [if_true, Option.getD_none, Option.isSome_none, pairV, ptrB, spanV, show ((0 : Nat) : Int) = 0 from rfl] at e1
 obtain ⟨W2, hW2⟩ : ∃ W2, W2 = W1.alloc (.cells #[.int .i64 0, .int .i64 0] 81) := ⟨_, rfl⟩
 have hb2 : Below W1.heap.size W1 W2 := by rw [hW2]; exact (Below.refl _ _).alloc (Nat.le_refl _) _
 have h2 := h1.step hb2
 have h42 := heap_step h41 hb2
 have hB2 := hB1.trans (hb2.mono hB1.size)
 obtain ⟨W3, e2, hm3⟩ := upd_run key71_ok Try.underlying78 W2 b T h2.tab (h2.gd.step hB2) (a, d) ⟨hga.step hB2, hgd.step hB2⟩ (spanV ls.length ls.length)
 simp only [pairV, ptrB, spanV] at e2
 have h3 := h2.mapped hm3.kp hm3.map (h2.gd.up (a, d) (spanV ls.length ls.length) ⟨hga, hgd⟩)
 have hbw : b < w.heap.size := by have := h.lo; have := h.nb; omega
 have hclw : cl < w.heap.size := by have := h.lo; have := h.nb; omega
 have hz2 : W2.heap.size = w.heap.size + 2 := by rw [hW2]; simp [hz1]
 have h43 := (hm3.kp.blk _ (heap_lt h42) (by omega)).trans h42
 have hB3 := hm3.bel _ _ hb0.1 hB2
 have HGF3 : Hid (Gf b cl NB w W3) := Lib.hid (((Gf.of hb1 (by omega)).trans (Gf.of hb2 (by omega))).trans (Gf.map hm3.kp hm3.bel))
 have HGS3 := Lib.hid h3
 have HB3 := Lib.hid hB3
 have HT43 := Lib.hid h43
 have HSP1 : Hid (sizes x - 1 < sizes x → Spn w0 (sizes x - 1) (upm T (a, d) (spanV ls.length ls.length)) ls) := Lib.hid fun hlt => hsp.begin hx hlt
 have m1 : W1.cell? ⟨cm, 0, none⟩ = some (.map (some b)) := (cellH h1.mapc 0).trans rfl
 have l2 : W2.cell? ⟨cl, 0, none⟩ = some (.slice q ls.length c) := (cellH h2.links 0).trans rfl
 have m2 : W2.cell? ⟨cm, 0, none⟩ = some (.map (some b)) := (cellH h2.mapc 0).trans rfl
 have x20 : W2.cell? ⟨w.heap.size, 0, none⟩ = some (.pointer (a.bind at0)) := (cellH h42 0).trans rfl
 have x21 : W2.cell? ⟨w.heap.size, 1, none⟩ = some (.pointer (d.bind at0)) := (cellH h42 1).trans rfl
 have x30 : W3.cell? ⟨w.heap.size, 0, none⟩ = some (.pointer (a.bind at0)) := (cellH h43 0).trans rfl
 have H36 := Lib.hid (keys_any W3 _ L (hL.step hB3) (by omega))
 have HRR := Lib.hid (And.intro hxr hyr)
 have HLM := Lib.hid (And.intro hL hM)
 have HXY := Lib.hid (And.intro hx hy)
 have HG := Lib.hid (And.intro hga hgd)
 have HIH := Lib.hid IH
 have HB0 := Lib.hid hb0
 have HL7 := Lib.hid hl
 have hsz3 : w.heap.size + 2 ≤ W3.heap.size := by have := hm3.kp.size; omega
 have hll : ls.length ≤ 7000000 := by omega
 have HOK := Lib.hid hok
 clear h hB hb0 hx hy hok hsp hl hin IH hxr hyr hL hM hga hgd hps h1 hB1 h2 h41 h42 h43 hB2 hB3 hm3 h3 hb1 hb2 hz2
 subst hW2
 simp only [hz1] at *
 clear hz1
 subst hW1
 obtain ⟨V, hV⟩ : ∃ V, V = visN x := ⟨_, rfl⟩
 have HVR := Lib.hid (vis_rep HRR.out.1)
 rw [← hV] at HVR
 have HVL : Hid (V.length = (vis ((L.map (·.bi)).reverse)).length) := Lib.hid HVR.out.len
 have HVF : Hid (∀ a' ∈ V, fndN x a'.h.k = some a') := Lib.hid fun a' ha' => fndN_vis (by rw [hV] at ha'; exact ha')
 have HVS : Hid (∀ a' ∈ V, sizes a'.ps < sizes x) := Lib.hid fun a' ha' => size_pv (by rw [hV] at ha'; exact ha')
 have HMT : Hid (mt x y = .ok (V.flatMap (itmL mt y))) := Lib.hid (by rw [mt_eq, ← hV]; exact mtL_flat V (by have := HOK.out; rwa [mt_eq, ← hV] at this))
 have HVO : Hid (∀ c ∈ V, ∃ z, fndN y c.h.k = some z ∧ (c.h.k.1 = 4 → isOk (mt c.ps z.ps) = true)) := Lib.hid ((mtL_ok V).1 (by have := HOK.out; rwa [mt_eq, ← hV] at this))
 have HVZ : Hid (sizes V ≤ sizes x) := Lib.hid (by rw [hV]; exact sizes_visN x)
 have hvn : V.length ≤ 4000 := by have := sizes_len V; have := HVZ.out; omega
 have HH37 : Hid (∀ W k, Below w0.heap.size w0 W → Calls Try.prog 37 #[.agg #[.pointer (a.bind at0), .pointer (d.bind at0)], .agg #[.int .i64 k.1, .string k.2]] W (ItemsPost W (look L k) (look M k))) := Lib.hid fun W k hW => items_any W _ _ L M k (HLM.out.1.step hW) (HLM.out.2.step hW)
 have HKL : Hid (((vis ((L.map (·.bi)).reverse)).map (·.k)).length = V.length) := Lib.hid (by rw [List.length_map]; exact HVL.out.symm)
 have HKV : Hid (∀ (k : Nat) (a' : Bn), V[k]? = some a' → ((vis ((L.map (·.bi)).reverse)).map (·.k))[k]? = some a'.h.k) := Lib.hid fun k a' ha' => by
  obtain ⟨b', h1, h2⟩ := HVR.out.get ha'
  rw [List.getElem?_map, h1]; simp [((repB_iff _ _ _).1 h2).1]
 clear hV hLl
 generalize (vis ((L.map (·.bi)).reverse)).map (·.k) = KL at H36 HKL HKV
 have hln : ∀ (W : World) (q : Option Addr) (n c : Nat), (Builtin.len_ #[74] 3 #[.slice q n c]).run Try.prog W = .ok (.int .i64 n) W := fun W q n c => rfl
 have hln2 : ∀ (W : World) (q : Option Addr) (n c : Nat), (Builtin.len_ #[25] 3 #[.slice q n c]).run Try.prog W = .ok (.int .i64 n) W := fun W q n c => rfl
 go_enter Try.func38, Try.ntmps38
 go_wp2_with (go_at_call 36; refine H36.out.mono ?_; rintro e w1 ⟨v1, rfl, ho1, hb1⟩; have HO1 := Lib.hid ho1; have HB1 := Lib.hid hb1; obtain ⟨q1, n1, c1, rfl, hn1, hk1⟩ : ∃ q1 n1 c1, v1 = .slice q1 n1 c1 ∧ n1 = V.length ∧ (n1 = 0 ∨ ∃ g, q1 = some ⟨g, 0, none⟩ ∧ W3.heap.size ≤ g ∧ g < w1.heap.size ∧ n1 ≤ c1 ∧ ∀ i k, KL[i]? = some k → KyAt w1 g i k) := (by
   rcases ho1.slice with ⟨h1, h2⟩ | ⟨g, c, h1, h2, h3, h4⟩
   ·exact ⟨none, 0, 0, h1, by rw [← HKL.out, h2]; rfl, .inl rfl⟩
   ·subst h1; exact ⟨_, _, _, rfl, HKL.out, .inr ⟨g, rfl, h2, h3, h4, fun i k hi => ho1.at_ i k hi⟩⟩); have HN1 := Lib.hid hn1; have HK1 := Lib.hid hk1; clear ho1 hb1 hk1)
 have hn4 : n1 ≤ 4000 := by omega
 have HT4 := Lib.hid (heap_step HT43.out HB1.out)
 have HG1 := Lib.hid (HGS3.out.step HB1.out)
 have hw12 : w.heap.size + 2 ≤ w1.heap.size := by have := HB1.out.size; omega
 have HGF1 := Lib.hid (HGF3.out.trans (Gf.of HB1.out (by omega)))
 go_loopw [39] (fun i wr => ∃ (k : Nat) (vr : Value) (tb : List ((Option Nat × Option Nat) × Value)), k ≤ n1 ∧ i = .int .i64 k ∧ Hid (Gs w0 wr NB b cm cl cw vr (ls ++ (V.take k).flatMap (itmL mt y)) tb) ∧
   Hid (SNew w0 (upm T (a, d) (spanV ls.length ls.length)) tb (ls ++ (V.take k).flatMap (itmL mt y))) ∧ Hid (Gf b cl NB w1 wr) ∧ Hid (Below w0.heap.size w0 wr)) (fun i _ => n1 - (intOf i).toNat)
 case atStart => exact ⟨0, _, _, by omega, rfl, by simpa using HG1, Lib.hid (by simpa using SNew.refl _ _ _), Lib.hid (Gf.refl _ _ _ _), Lib.hid (HB3.out.trans (HB1.out.mono HB3.out.size))⟩
 case round =>
  obtain ⟨k, vr, tb, hk, rfl, HGr, HNr, HFr, HBr⟩ := hrel
  obtain ⟨qr, cr, hvr, _⟩ := own_slice HGr.out.own
  subst hvr
  have g4 := HFr.out.blk _ _ HT4.out (by omega) (by omega) (no48 (by decide))
  have p0 : wr.cell? ⟨w.heap.size, 0, none⟩ = some (.pointer (a.bind at0)) := (cellH g4 0).trans rfl
  have p1 : wr.cell? ⟨w.heap.size, 1, none⟩ = some (.pointer (d.bind at0)) := (cellH g4 1).trans rfl
  have HG4 := Lib.hid g4
  clear g4
  have HLK : Hid ((ls ++ (V.take k).flatMap (itmL mt y)).length ≤ ls.length + sizes (V.take k)) := Lib.hid (by rw [List.length_append]; have := flat_len y (V.take k); omega)
  by_cases hlt : k < n1
  ·obtain h0 | ⟨gk, rfl, hgk1, hgk2, hgc, hkat⟩ := HK1.out
   ·omega
   obtain ⟨a', ha'⟩ : ∃ a', V[k]? = some a' := ⟨_, List.getElem?_eq_getElem (by omega)⟩
   have ham := List.mem_of_getElem? ha'
   obtain ⟨z, hz, hzo⟩ := HVO.out a' ham
   obtain ⟨u0, u1⟩ := hkat k _ (HKV.out k a' ha')
   obtain ⟨csk, hck⟩ : ∃ cs : Array Value, w1.heap[gk]? = some (.cells cs 27 (0, 0)) := by
    rcases HO1.out with ⟨_, ⟨h1, _⟩ | ⟨g', c', cur, h1, _, h3, _⟩⟩
    ·cases h1
    ·simp only [Value.slice.injEq, Option.some.injEq, Addr.mk.injEq, and_true] at h1
     obtain ⟨rfl, _, _⟩ := h1
     exact ⟨_, h3⟩
   have hckr := HFr.out.blk _ _ hck (by omega) (by omega) (no48 (by decide))
   have hcell : ∀ o, wr.cell? ⟨gk, o, none⟩ = w1.cell? ⟨gk, o, none⟩ := fun o => by simp only [World.cell?, hck, hckr]
   have u0' : wr.cell? ⟨gk, k * 2, none⟩ = some (.int .i64 a'.h.k.1) := (hcell _).trans u0
   have u1' : wr.cell? ⟨gk, k * 2 + 1, none⟩ = some (.string a'.h.k.2) := (hcell _).trans u1
   have hbl := look_rep HRR.out.1 a'.h.k
   rw [HVF.out a' ham] at hbl
   obtain ⟨bd, hbd, hbr⟩ : ∃ bd, look L a'.h.k = some bd ∧ RepB w0 a' bd.bi := by
    cases hq : look L a'.h.k with
    | none => rw [hq] at hbl; exact hbl.elim
    | some bd => rw [hq] at hbl; exact ⟨bd, rfl, hbl⟩
   have hbm := look_rep HRR.out.2 a'.h.k
   rw [hz] at hbm
   obtain ⟨bd2, hbd2, hzr⟩ : ∃ bd2, look M a'.h.k = some bd2 ∧ RepB w0 z bd2.bi := by
    cases hq : look M a'.h.k with
    | none => rw [hq] at hbm; exact hbm.elim
    | some bd => rw [hq] at hbm; exact ⟨bd, rfl, hbm⟩
   have H37 := Lib.hid (fun W hW => HH37.out W a'.h.k hW)
   rw [hbd, hbd2] at H37
   have H37' : Hid (∀ W, Below w0.heap.size w0 W → Calls Try.prog 37 #[.agg #[.pointer (a.bind at0), .pointer (d.bind at0)], .agg #[.int .i64 a'.h.k.1, .string a'.h.k.2]] W fun e w' => e = .returned (.tuple #[.agg #[.int .i64 bd.bi.dc, .int .i64 bd.bi.via, .pointer bd.bi.pa, .pointer bd.bi.pm], .agg #[.int .i64 bd2.bi.dc, .int .i64 bd2.bi.via, .pointer bd2.bi.pa, .pointer bd2.bi.pm], .bool true]) ∧ Below W.heap.size W w') := Lib.hid fun W hW => H37.out W hW
   have HP1 := Lib.hid ((repB_iff _ _ _).1 hbr).2.2.2.1
   have HP2 := Lib.hid ((repB_iff _ _ _).1 hzr).2.2.2.1
   have hd1 : a'.h.dc = bd.bi.dc := ((repB_iff _ _ _).1 hbr).2.1.symm
   have hd2 : z.h.dc = bd2.bi.dc := ((repB_iff _ _ _).1 hzr).2.1.symm
   have HOW : Hid (ownL a' z = if bd.bi.dc = bd2.bi.dc then [] else [(bd.bi.dc, bd2.bi.dc)]) := Lib.hid (by unfold ownL; rw [hd1, hd2])
   have HIT : Hid (itmL mt y a' = ownL a' z ++ (if a'.h.k.1 = 4 then okL (mt a'.ps z.ps) else [])) := Lib.hid (by unfold itmL; rw [hz])
   have HTK : Hid (ls ++ (V.take (k + 1)).flatMap (itmL mt y) = (ls ++ (V.take k).flatMap (itmL mt y)) ++ itmL mt y a') := Lib.hid (by rw [flat_take ha', List.append_assoc])
   have HZO : Hid (a'.h.k.1 = 4 → isOk (mt a'.ps z.ps) = true) := Lib.hid hzo
   have HPS := Lib.hid (HVS.out a' ham)
   have HLZ : Hid ((ls ++ (V.take k).flatMap (itmL mt y)).length + 1 + sizes a'.ps ≤ 7000000) := Lib.hid (by
    have h1 := HLK.out
    have h2 := HVZ.out
    have h3 := sizes_take_le V (k + 1)
    have h4 : sizes (V.take (k + 1)) = sizes (V.take k) + a'.size := by rw [List.take_add_one, ha', sizes_app]; simp [sizes]
    have h5 := a'.size_eq
    have h6 := HL7.out
    omega)
   have HPF : Hid (∃ m, ls ++ (V.take k).flatMap (itmL mt y) = ls ++ m) := Lib.hid ⟨_, rfl⟩
   have hwr : w.heap.size + 2 ≤ wr.heap.size := by have := HFr.out.size; omega
   have hw3 : w.heap.size < wr.heap.size := by omega
   have hgr : gk < wr.heap.size := heap_lt hckr
   have r1 : (0 : Int) ≤ (k : Int) := by omega
   have r2 : (k : Int) < (n1 : Int) := by omega
   clear u0 u1 hkat hck hckr hcell hbl hbm hbd hbd2 H37 hbr hzr hd1 hd2 hz hzo
   generalize bd.bi = bi at *
   generalize bd2.bi = bj at *
   generalize a'.h.k = key at u0' u1' H37' HIT HZO
   generalize ls ++ (V.take k).flatMap (itmL mt y) = LK at *
   obtain ⟨bk, bc, bv, bp, bm⟩ := bi
   obtain ⟨ck, cc, cv, cp, cn⟩ := bj
   obtain ⟨ks, kn⟩ := key
   dsimp only at H37' HP1 HP2 HOW u0' u1' HIT HZO
   obtain ⟨a1, ha1⟩ : ∃ a1, bp = a1.bind at0 := ⟨nO bp, HP1.out.nO.1⟩
   obtain ⟨d1, hd1⟩ : ∃ d1, cp = d1.bind at0 := ⟨nO cp, HP2.out.nO.1⟩
   subst ha1
   subst hd1
   clear ha' ham HLK
   go_upto_if 54 with (go_at_call 37; refine (H37'.out _ (HBr.out.alloc HBr.out.size _)).mono ?_; rintro e w2 ⟨rfl, hb2⟩; have HB2 := Lib.hid (((Below.refl _ _).alloc (Nat.le_refl _) (.cells #[.int .i64 ks, .string kn] 27)).trans (hb2.mono (by simp))); have g9 := heap_step (heap_new wr (.cells #[.int .i64 ks, .string kn] 27)) hb2; have k90 : w2.cell? ⟨wr.heap.size, 0, none⟩ = some (.int .i64 ks) := (cellH g9 0).trans rfl; have k91 : w2.cell? ⟨wr.heap.size, 1, none⟩ = some (.string kn) := (cellH g9 1).trans rfl; have HT9 := Lib.hid g9; have s9 := heap_lt g9; clear hb2 g9)
   obtain ⟨WA, hWA⟩ : ∃ WA, WA = (w2.alloc (.cells #[.int .i64 bc, .int .i64 bv, .pointer (a1.bind at0), .pointer bm] 58)).alloc (.cells #[.int .i64 cc, .int .i64 cv, .pointer (d1.bind at0), .pointer cn] 58) := ⟨_, rfl⟩
   have hbA : Below w2.heap.size w2 WA := by rw [hWA]; exact ((Below.refl _ _).alloc (Nat.le_refl _) _).alloc (by simp) _
   have t10 : WA.heap[w2.heap.size]? = some (.cells #[.int .i64 bc, .int .i64 bv, .pointer (a1.bind at0), .pointer bm] 58 (0, 0)) := by rw [hWA]; exact heap_step (heap_new w2 _) ((Below.refl _ _).alloc (Nat.le_refl _) _)
   have t11 : WA.heap[w2.heap.size + 1]? = some (.cells #[.int .i64 cc, .int .i64 cv, .pointer (d1.bind at0), .pointer cn] 58 (0, 0)) := by rw [hWA, show w2.heap.size + 1 = (w2.alloc (.cells #[.int .i64 bc, .int .i64 bv, .pointer (a1.bind at0), .pointer bm] 58)).heap.size by simp]; exact heap_new _ _
   have HT10 := Lib.hid t10
   have HT11 := Lib.hid t11
   have HT9A := Lib.hid (heap_step HT9.out hbA)
   have HGA := Lib.hid ((HGr.out.step HB2.out).step hbA)
   have HFA := Lib.hid ((HFr.out.trans (Gf.of HB2.out (by omega))).trans (Gf.of hbA (by have := HB2.out.size; omega)))
   have HBA := Lib.hid ((HBr.out.trans (HB2.out.mono HBr.out.size)).trans (hbA.mono (Nat.le_trans HBr.out.size HB2.out.size)))
   have hw2 : wr.heap.size < w2.heap.size := s9
   rw [← hWA]
   have b10 : WA.cell? ⟨w2.heap.size, 0, none⟩ = some (.int .i64 bc) := (cellH t10 0).trans rfl
   have b11 : WA.cell? ⟨w2.heap.size + 1, 0, none⟩ = some (.int .i64 cc) := (cellH t11 0).trans rfl
   have l0 : WA.cell? ⟨cl, 0, none⟩ = some (.slice qr LK.length cr) := (cellH HGA.out.links 0).trans rfl
   have hclA : cl < WA.heap.size := heap_lt HGA.out.links
   have hLK7 : LK.length ≤ 7000000 := by have := HLZ.out; omega
   have hzA : w2.heap.size + 1 < WA.heap.size := heap_lt t11
   clear hWA hbA t10 t11 p0 p1 u0' u1' k90 k91 s9 HGr HFr HBr HB2 HG4 HT9
   go_cut [] from 54 to 62 (fun wx => ∃ v2, Hid (Gs w0 wx NB b cm cl cw v2 (LK ++ ownL a' z) tb) ∧ Hid (Gf b cl NB WA wx))
   case first =>
    by_cases hdc : bc = cc
    ·have hOW : Hid (ownL a' z = []) := Lib.hid (by rw [HOW.out, if_pos hdc])
     have ht : (bc != cc) = false := by simp [hdc]
     clear hdc
     go_wp2_with fail
     go_meet
     exact ⟨_, Lib.hid (by rw [hOW.out, List.append_nil]; exact HGA.out), Lib.hid (Gf.refl _ _ _ _)⟩
    ·have hOW : Hid (ownL a' z = [(bc, cc)]) := Lib.hid (by rw [HOW.out, if_neg hdc])
     have ht : (bc != cc) = true := by simp [hdc]
     clear hdc
     have hbL : Below WA.heap.size WA (WA.alloc (.cells #[.int .i64 bc, .int .i64 cc] 48)) := (Below.refl _ _).alloc (Nat.le_refl _) _
     have HGL := Lib.hid (HGA.out.step hbL)
     have HFL : Hid (Gf b cl NB WA (WA.alloc (.cells #[.int .i64 bc, .int .i64 cc] 48))) := Lib.hid (Gf.of hbL (by have := HGA.out.lo; have := HGA.out.nb; omega))
     have hrow : (WA.alloc (.cells #[.int .i64 bc, .int .i64 cc] 48)).ownsRow NB 48 2 (.slice qr LK.length cr) LK.length (pcells LK) := HGL.out.own
     have HNW := Lib.hid (newp 48 WA (bc, cc))
     have HNBA := Lib.hid HGL.out.nb
     clear hbL
     go_wp2_with (at_builtin; refine wpList_append_own _ rfl _ _ 25 rfl NB 48 i48 _ 2 16 Try.underlying25 hi48 hx0 hx1 hx2 rfl (by decide) _ _ _ rfl hrow ⟨_, 0, none⟩ 1 1 (pc (bc, cc)) rfl rfl HNW.out (onep _) (by unfold maxLen; omega) (by omega) HNBA.out ?_; intro v' w3 hown hgrow _; have hown' := OwnP.snoc hown; obtain ⟨q', n', c', hv', _⟩ := hown'.ps; subst hv'; obtain ⟨hfin, hlc, hgf⟩ := HGL.out.longer hown' hgrow; have HFIN := Lib.hid hfin; have HGF5 := Lib.hid hgf; have l3 : w3.cell? ⟨cl, 0, none⟩ = some (.slice qr LK.length cr) := (cellH hlc 0).trans rfl; have f3 : w3.frozen? ⟨cl, 0, none⟩ = false := frozenH hlc 0; clear hown hgrow hown' hfin hlc hgf)
     go_meet
     exact ⟨_, Lib.hid (by rw [hOW.out]; exact HFIN.out), Lib.hid (HFL.out.trans HGF5.out)⟩
   case rest =>
    obtain ⟨v2, HGS2, HGF2⟩ := hcut
    have g9 := HGF2.out.blk _ _ HT9A.out (by omega) (by omega) (no48 (by decide))
    have g10 := HGF2.out.blk _ _ HT10.out (by omega) (by omega) (no48 (by decide))
    have g11 := HGF2.out.blk _ _ HT11.out (by omega) (by omega) (no48 (by decide))
    have c9 : wc.cell? ⟨wr.heap.size, 0, none⟩ = some (.int .i64 ks) := (cellH g9 0).trans rfl
    have c10 : wc.cell? ⟨w2.heap.size, 2, none⟩ = some (.pointer (a1.bind at0)) := (cellH g10 2).trans rfl
    have c11 : wc.cell? ⟨w2.heap.size + 1, 2, none⟩ = some (.pointer (d1.bind at0)) := (cellH g11 2).trans rfl
    have cf : wc.cell? ⟨cw, 0, none⟩ = some (.func (.func 38) #[] #[.pointer (some ⟨cm, 0, none⟩), .pointer (some ⟨cl, 0, none⟩), .pointer (some ⟨cw, 0, none⟩)]) := (cellH HGS2.out.fn 0).trans rfl
    have HFC := Lib.hid (HFA.out.trans HGF2.out)
    have HBC := Lib.hid (HGF2.out.bel _ _ HB0.out.1 HB0.out.2.1 HB0.out.2.2 HBA.out)
    have HNR2 := Lib.hid (HNr.out.app (ownL a' z))
    clear b10 b11 l0 hclA hLK7 hzA g9 g10 g11 HOW HGA HFA HBA HT9A HT10 HT11
    by_cases h4 : ks = 4
    ·subst h4
     have HIT2 : Hid (itmL mt y a' = ownL a' z ++ okL (mt a'.ps z.ps)) := Lib.hid (by rw [HIT.out, if_pos rfl])
     have HCALL := Lib.hid (HIH.out a'.ps z.ps a1 d1 wc v2 (LK ++ ownL a' z) tb HPS.out HGS2.out HBC.out HP1.out HP2.out (HZO.out rfl) ((HSP1.out (by have := HPS.out; omega)).new' HNR2.out (by obtain ⟨m, hm⟩ := HPF.out; exact ⟨m ++ ownL a' z, by rw [hm, List.append_assoc]⟩)) (by have := HLZ.out; have := ownL_len a' z; rw [List.length_append]; omega))
     clear HIT HZO
     go_wp2_with (go_at_call 38; refine HCALL.out.mono ?_; rintro e w5 ⟨rfl, v5, T5, hgs5, hnew5, hgf5⟩; have HGS5 := Lib.hid hgs5; have HNW5 := Lib.hid hnew5; have HGF5 := Lib.hid hgf5; clear hgs5 hnew5 hgf5)
     go_roundw
     case rel => exact ⟨k + 1, v5, T5, by omega, by go_num, Lib.hid (by rw [HTK.out, HIT2.out, ← List.append_assoc]; exact HGS5.out), Lib.hid (by rw [HTK.out, HIT2.out, ← List.append_assoc]; exact HNR2.out.trans HNW5.out ⟨_, rfl⟩), Lib.hid (HFC.out.trans HGF5.out), Lib.hid (HGF5.out.bel _ _ HB0.out.1 HB0.out.2.1 HB0.out.2.2 HBC.out)⟩
     case measure => simp [intOf]; omega
    ·have HIT2 : Hid (itmL mt y a' = ownL a' z) := Lib.hid (by rw [HIT.out, if_neg h4, List.append_nil])
     have ht : (ks == 4) = false := by simp [h4]
     clear HIT HZO h4
     go_wp2_with fail
     go_roundw
     case rel => exact ⟨k + 1, v2, tb, by omega, by go_num, Lib.hid (by rw [HTK.out, HIT2.out]; exact HGS2.out), Lib.hid (by rw [HTK.out, HIT2.out]; exact HNR2.out), HFC, HBC⟩
     case measure => simp [intOf]; omega
  ·have hkn : k = n1 := by omega
   have HLS : Hid (ls ++ (V.take k).flatMap (itmL mt y) = ls ++ okL (mt x y)) := Lib.hid (by rw [hkn, HN1.out, List.take_length, HMT.out]; rfl)
   rw [HLS.out] at HGr HNr
   obtain ⟨W5, e5, hm5⟩ := upd_run key71_ok Try.underlying78 wr b tb HGr.out.tab (HGr.out.gd.step HBr.out) (a, d) ⟨HG.out.1.step HBr.out, HG.out.2.step HBr.out⟩ (spanV ls.length (ls ++ okL (mt x y)).length)
   simp only [pairV, ptrB, spanV] at e5
   have m5 : wr.cell? ⟨cm, 0, none⟩ = some (.map (some b)) := (cellH HGr.out.mapc 0).trans rfl
   have l5 : wr.cell? ⟨cl, 0, none⟩ = some (.slice qr (ls ++ okL (mt x y)).length cr) := (cellH HGr.out.links 0).trans rfl
   have HFIN : Hid (GatPost w0 w NB b cm cl cw ls T x y (.returned (.tuple #[])) W5) := Lib.hid ⟨rfl, _, _, HGr.out.mapped hm5.kp hm5.map (HGr.out.gd.up (a, d) _ ⟨HG.out.1, HG.out.2⟩), HNr.out.close HXY.out.1 HXY.out.2 (by rw [HMT.out]; rfl), (HGF1.out.trans HFr.out).trans (Gf.map hm5.kp hm5.bel)⟩
   clear hm5 HLS
   generalize (ls ++ okL (mt x y)).length = n5 at *
   go_wp2_with fail
   go_end0
   exact HFIN.out
end Go.Proofs.Ytagkpcnedccaiaa
