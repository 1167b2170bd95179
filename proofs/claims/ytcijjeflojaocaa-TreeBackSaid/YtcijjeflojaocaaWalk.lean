/-
  Walk: a part and all below it, by a list of its own that is gone back to by a goto.
-/
import Derived.Test.YtcijjeflojaocaaKids
import Derived.Deep.AppendLies
namespace Go.Proofs.Ytcijjeflojaocaa
open Go.RowKit
set_option linter.unusedVariables false
set_option linter.unusedSimpArgs false

def encO : Option Nat → Int
  | none => -1
  | some k => (k : Int)
theorem own_shorter {w : World} {base E n g c : Nat} {xs : List Value} {x : Value} (h : w.ownsRow base E 1 (.slice (some ⟨g, 0, none⟩) (n + 1) c) (n + 1) (xs ++ [x])) : w.ownsRow base E 1 (.slice (some ⟨g, 0, none⟩) n c) n xs := by
  obtain ⟨hl, ⟨h0, _⟩ | ⟨g', c', cur, hv, hb, hh, hle, hm, hs, ht⟩⟩ := h
  · cases h0
  · simp only [Value.slice.injEq, Option.some.injEq, Addr.mk.injEq, and_true, true_and] at hv
    obtain ⟨rfl, rfl⟩ := hv
    have hxl : xs.length = n := by simp at hl; omega
    refine ⟨by omega, .inr ⟨g, c, cur, rfl, hb, hh, by omega, hm, hs, ?_⟩⟩
    have : cur.toList.take n = (cur.toList.take (n + 1)).take n := by rw [List.take_take]; congr 1; omega
    rw [Nat.mul_one, this]
    rw [Nat.mul_one] at ht
    rw [ht, ← hxl, List.take_left]
theorem own_apart {w w1 : World} {base E size n : Nat} {v : Value} {xs : List Value} {row : Option Nat} (h : w.ownsRow base E size v n xs) (hg : w.grownBy w1 row) (hne : v.ownBlock = none ∨ v.ownBlock ≠ row) : w1.ownsRow base E size v n xs := h.kept hg hne

/-- A list of where to go on, the nearest one first, is right at m. -/
structure Walks (l : List Kn) (n E : Nat) (I : List Nat → Nat → Prop) : Prop where
  start : I [n] n
  fin : ∀ m, I [] m → m = E
  few : ∀ S m, I S m → S.length ≤ 1000
  pass : ∀ x r m, I (x :: r) m → x = m ∧ m < E ∧ m < l.length ∧ ∃ a b, l[m]?.map (fun k => (k.first, k.next)) = some (encO a, encO b) ∧ I (a.toList ++ (bif x == n then [] else b.toList) ++ r) (m + 1)

theorem one_newsN {w : World} {k : Nat} (hk : w.heap.size = k) (x : Value) (t : TypeId) (hx : x.oneCell' = true) : ∀ j u, ([x] : List Value)[j]? = some u → (w.alloc (.cells #[x] t)).cell? ((⟨k, 0, none⟩ : Addr).add j) = some u := by
  subst hk; exact one_news w x t hx
def lastP (v : Value) (n : Nat) : Prop := ∃ g c, v = .slice (some ⟨g, 0, none⟩) n c

/-- A frame of Walk's, of which seven slots are known. -/
structure Frame (T n : Nat) (vm vl : Value) (a : Act) : Prop where
  defers : a.defers = []
  size : a.tmps.size = 63
  s0 : a.tmps.getD 0 undef = .pointer (some ⟨T, 0, none⟩)
  s1 : a.tmps.getD 1 undef = .int .i64 n
  s2 : a.tmps.getD 2 undef = undef
  s3 : a.tmps.getD 3 undef = undef
  s4 : a.tmps.getD 4 undef = .slice none 0 0
  s5 : a.tmps.getD 5 undef = vm
  s6 : a.tmps.getD 6 undef = vl
theorem ofFn63 (f : Nat → Value) : (Array.ofFn (n := 63) fun i => f i.1) = #[f 0, f 1, f 2, f 3, f 4, f 5, f 6, f 7, f 8, f 9, f 10, f 11, f 12, f 13, f 14, f 15, f 16, f 17, f 18, f 19, f 20, f 21, f 22, f 23, f 24, f 25, f 26, f 27, f 28, f 29, f 30, f 31, f 32, f 33, f 34, f 35, f 36, f 37, f 38, f 39, f 40, f 41, f 42, f 43, f 44, f 45, f 46, f 47, f 48, f 49, f 50, f 51, f 52, f 53, f 54, f 55, f 56, f 57, f 58, f 59, f 60, f 61, f 62] := by kernel_rfl
theorem Frame.form {T n : Nat} {vm vl : Value} {a : Act} (h : Frame T n vm vl a) : ∃ u : Nat → Value, a = { tmps := #[.pointer (some ⟨T, 0, none⟩), .int .i64 n, undef, undef, .slice none 0 0, vm, vl, (u 7), (u 8), (u 9), (u 10), (u 11), (u 12), (u 13), (u 14), (u 15), (u 16), (u 17), (u 18), (u 19), (u 20), (u 21), (u 22), (u 23), (u 24), (u 25), (u 26), (u 27), (u 28), (u 29), (u 30), (u 31), (u 32), (u 33), (u 34), (u 35), (u 36), (u 37), (u 38), (u 39), (u 40), (u 41), (u 42), (u 43), (u 44), (u 45), (u 46), (u 47), (u 48), (u 49), (u 50), (u 51), (u 52), (u 53), (u 54), (u 55), (u 56), (u 57), (u 58), (u 59), (u 60), (u 61), (u 62)], defers := [] } := by
  obtain ⟨hd, hs, h0, h1, h2, h3, h4, h5, h6⟩ := h
  refine ⟨fun i => a.tmps.getD i undef, ?_⟩
  have e : a.tmps = #[a.tmps.getD 0 undef, a.tmps.getD 1 undef, a.tmps.getD 2 undef, a.tmps.getD 3 undef, a.tmps.getD 4 undef, a.tmps.getD 5 undef, a.tmps.getD 6 undef, a.tmps.getD 7 undef, a.tmps.getD 8 undef, a.tmps.getD 9 undef, a.tmps.getD 10 undef, a.tmps.getD 11 undef, a.tmps.getD 12 undef, a.tmps.getD 13 undef, a.tmps.getD 14 undef, a.tmps.getD 15 undef, a.tmps.getD 16 undef, a.tmps.getD 17 undef, a.tmps.getD 18 undef, a.tmps.getD 19 undef, a.tmps.getD 20 undef, a.tmps.getD 21 undef, a.tmps.getD 22 undef, a.tmps.getD 23 undef, a.tmps.getD 24 undef, a.tmps.getD 25 undef, a.tmps.getD 26 undef, a.tmps.getD 27 undef, a.tmps.getD 28 undef, a.tmps.getD 29 undef, a.tmps.getD 30 undef, a.tmps.getD 31 undef, a.tmps.getD 32 undef, a.tmps.getD 33 undef, a.tmps.getD 34 undef, a.tmps.getD 35 undef, a.tmps.getD 36 undef, a.tmps.getD 37 undef, a.tmps.getD 38 undef, a.tmps.getD 39 undef, a.tmps.getD 40 undef, a.tmps.getD 41 undef, a.tmps.getD 42 undef, a.tmps.getD 43 undef, a.tmps.getD 44 undef, a.tmps.getD 45 undef, a.tmps.getD 46 undef, a.tmps.getD 47 undef, a.tmps.getD 48 undef, a.tmps.getD 49 undef, a.tmps.getD 50 undef, a.tmps.getD 51 undef, a.tmps.getD 52 undef, a.tmps.getD 53 undef, a.tmps.getD 54 undef, a.tmps.getD 55 undef, a.tmps.getD 56 undef, a.tmps.getD 57 undef, a.tmps.getD 58 undef, a.tmps.getD 59 undef, a.tmps.getD 60 undef, a.tmps.getD 61 undef, a.tmps.getD 62 undef] := by
    rw [← ofFn63 (fun i => a.tmps.getD i undef)]
    refine Array.ext (by simp [hs]) fun i hi1 hi2 => ?_
    simp [hi1]
  obtain ⟨t, d⟩ := a
  simp only at hd e h0 h1 h2 h3 h4 h5 h6
  subst hd
  rw [h0, h1, h2, h3, h4, h5, h6] at e
  exact congrArg (fun t => ({ tmps := t, defers := [] } : Act)) e

set_option maxHeartbeats 8000000 in
set_option maxRecDepth 20000 in
theorem walk_yes {T g c : Nat} {l : List Kn} (n E : Nat) (w : World) (h : Arena w T g c l) (hn : n < l.length) (hE : E ≤ 1000) (I : List Nat → Nat → Prop) (hI : Walks l n E I) :
    Calls Try.prog 17 #[.pointer (some ⟨T, 0, none⟩), .int .i64 n] w fun e w' => ∃ v, e = .returned v ∧ OwnN w' w.heap.size v (List.range' n (E - n)) ∧ Below w.heap.size w w' := by
  obtain ⟨i0, hi0, hy0, hy1, hy2⟩ := info_parts info3
  have H := Lib.hid (has_yes n w h hn)
  have HA := Lib.hid h
  have HI := Lib.hid hI
  have how : (w.alloc (.cells #[.int .i64 (n : Int)] 3)).ownsRow w.heap.size 3 1 (.slice (some ⟨w.heap.size, 0, none⟩) 1 1) 1 [.int .i64 (n : Int)] := own_lit (heap_alloc_new w _) (Nat.le_refl _) rfl (by unfold maxLen; omega)
  have HOW := Lib.hid how
  clear h hI how
  go_enter Try.func17, Try.ntmps17
  go_wp2_with fail
  refine wp_scope_label3 0 (fun a' w' => ∃ (m : Nat) (S : List Nat) (vm vl : Value), n ≤ m ∧ S ≠ [] ∧ Hid (I S m) ∧ Hid (w'.ownsRow w.heap.size 3 1 vm (m - n) ((List.range' n (m - n)).map mkN)) ∧ Hid (w'.ownsRow w.heap.size 3 1 vl S.length (S.reverse.map mkN)) ∧ Hid (vl.ownBlock = none ∨ vl.ownBlock ≠ vm.ownBlock) ∧ Hid (vm.ownBlock = none ∨ vm.ownBlock ≠ vl.ownBlock) ∧ Below w.heap.size w w' ∧ Frame T n vm vl a') (fun a' _ => E + n - lenOf (a'.tmps.getD 5 undef)) (by rfl) ?_ ?_
  · go_wp2_with fail
    refine H.out.mono ?_
    rintro e w1 ⟨rfl, rfl⟩
    go_wp2_with fail
    exact ⟨n, [n], _, _, by omega, by simp, Lib.hid HI.out.start, Lib.hid (by rw [Nat.sub_self]; exact World.ownsRow_nil _ _ _ _), Lib.hid HOW.out, Lib.hid (.inr (by simp [Value.ownBlock])), Lib.hid (.inl rfl), (Below.refl _ _).alloc (Nat.le_refl _) _, ⟨rfl, rfl, rfl, rfl, rfl, rfl, rfl, rfl, rfl⟩⟩
  rintro a' w' ⟨m, S, vm, vl, hnm, hS, HS, HM, HL, HD, HD', hbe, hfr⟩
  obtain ⟨u, rfl⟩ := hfr.form
  clear hfr
  obtain ⟨x, r, rfl⟩ := List.exists_cons_of_ne_nil hS
  obtain ⟨rfl, hmE, hml, a, b, hfn, hnext⟩ := HI.out.pass x r m HS.out
  obtain ⟨gl, cl, hvl, hglb, hgl, hgc, hgm⟩ := own_pos HL.out (by simp)
  subst hvl
  obtain ⟨k1, hk1, hkk⟩ := Option.map_eq_some_iff.1 hfn
  obtain ⟨_, rfl⟩ := List.getElem?_eq_some_iff.1 hk1
  simp only [Prod.mk.injEq] at hkk
  obtain ⟨hfst, hnxt⟩ := hkk
  have HF := Lib.hid hfst
  have HX := Lib.hid hnxt
  have hLL : w'.ownsRow w.heap.size 3 1 (.slice (some ⟨gl, 0, none⟩) (r.length + 1) cl) (r.length + 1) (r.reverse.map mkN ++ [.int .i64 (x : Int)]) := by
    have := HL.out
    simp only [List.length_cons, List.reverse_cons, List.map_append, List.map_cons, List.map_nil] at this
    exact this
  have c0 : w'.cell? ⟨gl, r.length, none⟩ = some (.int .i64 (x : Int)) := own_cell hLL r.length _ (by rw [List.getElem?_append_right (by simp)]; simp)
  have HL2 := Lib.hid (own_shorter hLL)
  have hfew := HI.out.few _ _ HS.out
  have HRL : Hid (r.reverse.length = r.length) := Lib.hid (by simp)
  simp only [List.length_cons] at *
  generalize hd : r.length = d at *
  have hd1 : d ≤ 1000 := by omega
  have HDD := Lib.hid hd
  obtain ⟨q, hq⟩ : ∃ q, q = x - n := ⟨_, rfl⟩
  rw [← hq] at HM
  have hq1 : q ≤ 1000 := by omega
  have hqE : q < E := by omega
  have HRNG : Hid (List.range' n (x + 1 - n) = List.range' n q ++ [x]) := Lib.hid (by
    rw [show x + 1 - n = q + 1 by omega, List.range'_concat]
    congr 2
    omega)
  have hxq : x + 1 - n = q + 1 := by omega
  have HXQ := Lib.hid hxq
  have hsub : IntKind.i64.wrap ((d : Int) + 1 - 1) = (d : Int) := by rw [show (d : Int) + 1 - 1 = (d : Int) by omega]; exact IntWalk.i64_in _ (by omega)
  have hz := hbe.size
  have ha := HA.out.step hbe
  have hT := ha.top
  obtain ⟨pn, nn, cn, ⟨e0, e1, e2, e3, e4, e5, e6, _, _⟩, _⟩ := ha.node hml
  have hr1 : (0 : Int) ≤ (x : Int) := by omega
  have hr2 : (x : Int) < (l.length : Int) := by omega
  rw [hfst] at e5
  rw [hnxt] at e6
  have HN := Lib.hid hnext
  have HB := Lib.hid hbe
  obtain ⟨pm, cm, rfl⟩ := own_form HM.out
  have hgm1 : gl < w'.heap.size := hgl
  clear hLL hfn hk1 hfst hnxt hnext HL HS hS hd hq hxq ha hbe
  have hb1 : Hid (Below w.heap.size w (w'.alloc (.cells #[.int .i64 (x : Int)] 3))) := Lib.hid (HB.out.alloc hz _)
  go_wp2_with (at_builtin; refine wpList_append_lies _ rfl _ _ 22 rfl w.heap.size 3 i0 _ 1 8 Try.underlying22 hi0 hy0 hy1 hy2 rfl (by omega) _ q _ rfl (World.ownsRow.alloc HM.out _) ⟨w'.heap.size, 0, none⟩ 1 1 [.int .i64 (x : Int)] rfl rfl (one_news _ _ _ rfl) (by simp [Value.oneCell']) (by omega) (by unfold maxLen; omega) (by omega) (by simp; omega) (w'.heap.size + 1) (by simp) ?_)
  intro g2 c2 w2 hown2 hgrow hgg hlt2
  have HM2 : Hid (w2.ownsRow w.heap.size 3 1 (.slice (some ⟨g2, 0, none⟩) (q + 1) c2) (q + 1) ((List.range' n (x + 1 - n)).map mkN)) := Lib.hid (by
    rw [HRNG.out, List.map_append]; exact hown2)
  have HLk : Hid (w2.ownsRow w.heap.size 3 1 (.slice (some ⟨gl, 0, none⟩) d cl) d (r.reverse.map mkN)) := Lib.hid (own_apart (World.ownsRow.alloc HL2.out _) hgrow HD.out)
  have hne : gl ≠ g2 := by
    intro e
    rcases hgg with h1 | h1
    · rcases HD.out with h2 | h2
      · simp [Value.ownBlock] at h2
      · exact h2 (by rw [h1, ← e]; rfl)
    · omega
  have HNE := Lib.hid hne
  have hb2 := hb1.out.grown hgrow (by simp; omega) (own_below HM.out (Nat.le_refl _))
  have hz2 := hb2.size
  have hz3 := hgrow.size
  simp only [World.size_alloc] at hz3
  have hT2 := (HA.out.step hb2).top
  have hgl2 : gl < w2.heap.size := by omega
  have ha2 := HA.out.step hb2
  obtain ⟨pn2, nn2, cn2, ⟨f0, f1, f2, f3, f4, f5, f6, _, _⟩, _⟩ := ha2.node hml
  rw [HF.out] at f5
  rw [HX.out] at f6
  have HB2 := Lib.hid hb2
  clear hown2 hgrow hgg hb2 ha2 hne e0 e1 e2 e3 e4 e5 e6 c0 HM HL2 hT hb1 HB HRNG HD HD' HF HX
  generalize l[x].k = y0 at *
  generalize l[x].m = y1 at *
  generalize l[x].f = y2 at *
  generalize l[x].t = y3 at *
  generalize l[x].up = y4 at *
  rcases a with _ | an
  · rcases b with _ | bn
    · simp only [encO] at f5 f6
      have HN : Hid (I (r) (x + 1)) := Lib.hid (by have := HN.out; cases hx : (x == n) <;> rw [hx] at this <;> simpa using this)
      rcases r with _ | ⟨r0, r1⟩
      · have hd0 : d = 0 := by have := HDD.out; simpa using this.symm
        subst hd0
        have HB3 : Hid (Below w.heap.size w (w2.alloc (.cells #[.int .i64 y0, .int .i64 y1, .int .i64 y2, .int .i64 y3, .int .i64 y4, .int .i64 (-1), .int .i64 (-1)] 34))) := Lib.hid (HB2.out.alloc hz2 _)
        have HL3 : Hid ((w2.alloc (.cells #[.int .i64 y0, .int .i64 y1, .int .i64 y2, .int .i64 y3, .int .i64 y4, .int .i64 (-1), .int .i64 (-1)] 34)).ownsRow w.heap.size 3 1 (.slice (some ⟨gl, 0, none⟩) 0 cl) 0 (([] : List Nat).reverse.map mkN)) := Lib.hid (World.ownsRow.alloc HLk.out _)
        have HM3 : Hid ((w2.alloc (.cells #[.int .i64 y0, .int .i64 y1, .int .i64 y2, .int .i64 y3, .int .i64 y4, .int .i64 (-1), .int .i64 (-1)] 34)).ownsRow w.heap.size 3 1 (.slice (some ⟨g2, 0, none⟩) (q + 1) c2) (q + 1) ((List.range' n (x + 1 - n)).map mkN)) := Lib.hid (World.ownsRow.alloc HM2.out _)
        have hs3 : (w2.alloc (.cells #[.int .i64 y0, .int .i64 y1, .int .i64 y2, .int .i64 y3, .int .i64 y4, .int .i64 (-1), .int .i64 (-1)] 34)).heap.size = w2.heap.size + 1 := by simp
        have HS3 := Lib.hid hs3
        clear hs3 HLk HM2 HB2
        have hE : x + 1 = E := HI.out.fin _ HN.out
        have HR : Hid (OwnN (w2.alloc (.cells #[.int .i64 y0, .int .i64 y1, .int .i64 y2, .int .i64 y3, .int .i64 y4, .int .i64 (-1), .int .i64 (-1)] 34)) w.heap.size (.slice (some ⟨g2, 0, none⟩) (q + 1) c2) (List.range' n (E - n))) := Lib.hid (by
          unfold OwnN; rw [← hE, List.length_range', HXQ.out]; have := HM3.out; rw [HXQ.out] at this; exact this)
        clear hE
        go_wp2_with fail
        simp only [Exit.jump]
        go_ret
        exact ⟨_, rfl, HR.out, HB3.out⟩
      · have hd0 : 0 < d := by have := HDD.out; simp at this; omega
        have HB3 : Hid (Below w.heap.size w (w2.alloc (.cells #[.int .i64 y0, .int .i64 y1, .int .i64 y2, .int .i64 y3, .int .i64 y4, .int .i64 (-1), .int .i64 (-1)] 34))) := Lib.hid (HB2.out.alloc hz2 _)
        have HL3 : Hid ((w2.alloc (.cells #[.int .i64 y0, .int .i64 y1, .int .i64 y2, .int .i64 y3, .int .i64 y4, .int .i64 (-1), .int .i64 (-1)] 34)).ownsRow w.heap.size 3 1 (.slice (some ⟨gl, 0, none⟩) d cl) d ((r0 :: r1).reverse.map mkN)) := Lib.hid (World.ownsRow.alloc HLk.out _)
        have HM3 : Hid ((w2.alloc (.cells #[.int .i64 y0, .int .i64 y1, .int .i64 y2, .int .i64 y3, .int .i64 y4, .int .i64 (-1), .int .i64 (-1)] 34)).ownsRow w.heap.size 3 1 (.slice (some ⟨g2, 0, none⟩) (q + 1) c2) (q + 1) ((List.range' n (x + 1 - n)).map mkN)) := Lib.hid (World.ownsRow.alloc HM2.out _)
        have hs3 : (w2.alloc (.cells #[.int .i64 y0, .int .i64 y1, .int .i64 y2, .int .i64 y3, .int .i64 y4, .int .i64 (-1), .int .i64 (-1)] 34)).heap.size = w2.heap.size + 1 := by simp
        have HS3 := Lib.hid hs3
        clear hs3 HLk HM2 HB2
        go_wp2_with fail
        go_step3
        refine ⟨rfl, ⟨x + 1, r0 :: r1, .slice (some ⟨g2, 0, none⟩) (q + 1) c2, _, by omega, by simp, HN, by rw [HXQ.out]; have := HM3; rw [HXQ.out] at this; exact this, Lib.hid (by have h1 := HL3.out; have h2 := HDD.out; simp only [List.length_cons]; first | (rw [h2]; exact h1) | (simp only [List.length_cons] at h2; rw [h2]; exact h1)), Lib.hid (.inr (by have := HNE.out; simp [Value.ownBlock]; omega)), Lib.hid (.inr (by have := HNE.out; simp [Value.ownBlock]; omega)), HB3.out, ⟨rfl, rfl, rfl, rfl, rfl, rfl, rfl, rfl, rfl⟩⟩, ?_⟩
        simp [lenOf]; omega
    · simp only [encO] at f5 f6
      have hfb : ((bn : Int) != -1) = true := by rw [bne_iff_ne]; omega
      by_cases hxn : x = n
      · have hx1 : ((x : Int) != (n : Int)) = false := by subst hxn; simp
        have hx2 : (x == n) = true := by simp [hxn]
        rw [hx2] at HN
        simp only [Option.toList, cond_true, cond_false, List.nil_append, List.cons_append] at HN
        clear hx2 hxn
        rcases r with _ | ⟨r0, r1⟩
        · have hd0 : d = 0 := by have := HDD.out; simpa using this.symm
          subst hd0
          have HB3 : Hid (Below w.heap.size w (w2.alloc (.cells #[.int .i64 y0, .int .i64 y1, .int .i64 y2, .int .i64 y3, .int .i64 y4, .int .i64 (-1), .int .i64 ((bn : Int))] 34))) := Lib.hid (HB2.out.alloc hz2 _)
          have HL3 : Hid ((w2.alloc (.cells #[.int .i64 y0, .int .i64 y1, .int .i64 y2, .int .i64 y3, .int .i64 y4, .int .i64 (-1), .int .i64 ((bn : Int))] 34)).ownsRow w.heap.size 3 1 (.slice (some ⟨gl, 0, none⟩) 0 cl) 0 (([] : List Nat).reverse.map mkN)) := Lib.hid (World.ownsRow.alloc HLk.out _)
          have HM3 : Hid ((w2.alloc (.cells #[.int .i64 y0, .int .i64 y1, .int .i64 y2, .int .i64 y3, .int .i64 y4, .int .i64 (-1), .int .i64 ((bn : Int))] 34)).ownsRow w.heap.size 3 1 (.slice (some ⟨g2, 0, none⟩) (q + 1) c2) (q + 1) ((List.range' n (x + 1 - n)).map mkN)) := Lib.hid (World.ownsRow.alloc HM2.out _)
          have hs3 : (w2.alloc (.cells #[.int .i64 y0, .int .i64 y1, .int .i64 y2, .int .i64 y3, .int .i64 y4, .int .i64 (-1), .int .i64 ((bn : Int))] 34)).heap.size = w2.heap.size + 1 := by simp
          have HS3 := Lib.hid hs3
          clear hs3 HLk HM2 HB2
          have hE : x + 1 = E := HI.out.fin _ HN.out
          have HR : Hid (OwnN (w2.alloc (.cells #[.int .i64 y0, .int .i64 y1, .int .i64 y2, .int .i64 y3, .int .i64 y4, .int .i64 (-1), .int .i64 ((bn : Int))] 34)) w.heap.size (.slice (some ⟨g2, 0, none⟩) (q + 1) c2) (List.range' n (E - n))) := Lib.hid (by
            unfold OwnN; rw [← hE, List.length_range', HXQ.out]; have := HM3.out; rw [HXQ.out] at this; exact this)
          clear hE
          go_wp2_with fail
          simp only [Exit.jump]
          go_ret
          exact ⟨_, rfl, HR.out, HB3.out⟩
        · have hd0 : 0 < d := by have := HDD.out; simp at this; omega
          have HB3 : Hid (Below w.heap.size w (w2.alloc (.cells #[.int .i64 y0, .int .i64 y1, .int .i64 y2, .int .i64 y3, .int .i64 y4, .int .i64 (-1), .int .i64 ((bn : Int))] 34))) := Lib.hid (HB2.out.alloc hz2 _)
          have HL3 : Hid ((w2.alloc (.cells #[.int .i64 y0, .int .i64 y1, .int .i64 y2, .int .i64 y3, .int .i64 y4, .int .i64 (-1), .int .i64 ((bn : Int))] 34)).ownsRow w.heap.size 3 1 (.slice (some ⟨gl, 0, none⟩) d cl) d ((r0 :: r1).reverse.map mkN)) := Lib.hid (World.ownsRow.alloc HLk.out _)
          have HM3 : Hid ((w2.alloc (.cells #[.int .i64 y0, .int .i64 y1, .int .i64 y2, .int .i64 y3, .int .i64 y4, .int .i64 (-1), .int .i64 ((bn : Int))] 34)).ownsRow w.heap.size 3 1 (.slice (some ⟨g2, 0, none⟩) (q + 1) c2) (q + 1) ((List.range' n (x + 1 - n)).map mkN)) := Lib.hid (World.ownsRow.alloc HM2.out _)
          have hs3 : (w2.alloc (.cells #[.int .i64 y0, .int .i64 y1, .int .i64 y2, .int .i64 y3, .int .i64 y4, .int .i64 (-1), .int .i64 ((bn : Int))] 34)).heap.size = w2.heap.size + 1 := by simp
          have HS3 := Lib.hid hs3
          clear hs3 HLk HM2 HB2
          go_wp2_with fail
          go_step3
          refine ⟨rfl, ⟨x + 1, r0 :: r1, .slice (some ⟨g2, 0, none⟩) (q + 1) c2, _, by omega, by simp, HN, by rw [HXQ.out]; have := HM3; rw [HXQ.out] at this; exact this, Lib.hid (by have h1 := HL3.out; have h2 := HDD.out; simp only [List.length_cons]; first | (rw [h2]; exact h1) | (simp only [List.length_cons] at h2; rw [h2]; exact h1)), Lib.hid (.inr (by have := HNE.out; simp [Value.ownBlock]; omega)), Lib.hid (.inr (by have := HNE.out; simp [Value.ownBlock]; omega)), HB3.out, ⟨rfl, rfl, rfl, rfl, rfl, rfl, rfl, rfl, rfl⟩⟩, ?_⟩
          simp [lenOf]; omega
      · have hx1 : ((x : Int) != (n : Int)) = true := by rw [bne_iff_ne]; omega
        have hx2 : (x == n) = false := by simp [hxn]
        rw [hx2] at HN
        simp only [Option.toList, cond_true, cond_false, List.nil_append, List.cons_append] at HN
        clear hx2 hxn
        have HB3 : Hid (Below w.heap.size w (w2.alloc (.cells #[.int .i64 y0, .int .i64 y1, .int .i64 y2, .int .i64 y3, .int .i64 y4, .int .i64 (-1), .int .i64 ((bn : Int))] 34))) := Lib.hid (HB2.out.alloc hz2 _)
        have HL3 : Hid ((w2.alloc (.cells #[.int .i64 y0, .int .i64 y1, .int .i64 y2, .int .i64 y3, .int .i64 y4, .int .i64 (-1), .int .i64 ((bn : Int))] 34)).ownsRow w.heap.size 3 1 (.slice (some ⟨gl, 0, none⟩) d cl) d (r.reverse.map mkN)) := Lib.hid (World.ownsRow.alloc HLk.out _)
        have HM3 : Hid ((w2.alloc (.cells #[.int .i64 y0, .int .i64 y1, .int .i64 y2, .int .i64 y3, .int .i64 y4, .int .i64 (-1), .int .i64 ((bn : Int))] 34)).ownsRow w.heap.size 3 1 (.slice (some ⟨g2, 0, none⟩) (q + 1) c2) (q + 1) ((List.range' n (x + 1 - n)).map mkN)) := Lib.hid (World.ownsRow.alloc HM2.out _)
        have hs3 : (w2.alloc (.cells #[.int .i64 y0, .int .i64 y1, .int .i64 y2, .int .i64 y3, .int .i64 y4, .int .i64 (-1), .int .i64 ((bn : Int))] 34)).heap.size = w2.heap.size + 1 := by simp
        have HS3 := Lib.hid hs3
        clear hs3 HLk HM2 HB2
        have HBa4 : Hid (Below w.heap.size w ((w2.alloc (.cells #[.int .i64 y0, .int .i64 y1, .int .i64 y2, .int .i64 y3, .int .i64 y4, .int .i64 (-1), .int .i64 ((bn : Int))] 34)).alloc (.cells #[.int .i64 (bn : Int)] 3))) := Lib.hid (HB3.out.alloc (by have := HS3.out; omega) _)
        go_wp2_with (at_builtin; refine wpList_append_lies _ rfl _ _ 22 rfl w.heap.size 3 i0 _ 1 8 Try.underlying22 hi0 hy0 hy1 hy2 rfl (by omega) _ (d) _ rfl (World.ownsRow.alloc HL3.out _) ⟨w2.heap.size + 1, 0, none⟩ 1 1 [.int .i64 (bn : Int)] rfl rfl (one_newsN HS3.out _ _ rfl) (by simp [Value.oneCell']) (by omega) (by unfold maxLen; omega) (by omega) (by have := HS3.out; simp at this ⊢; omega) (w2.heap.size + 1 + 1) (by rw [World.size_alloc, HS3.out]) ?_)
        intro g4 c4 w4 hown4 hgrow4 hgg4 hlt4
        have HL4 : Hid (w4.ownsRow w.heap.size 3 1 (.slice (some ⟨g4, 0, none⟩) (d + 1) c4) (d + 1) ((bn :: r).reverse.map mkN)) := Lib.hid (by simpa using hown4)
        have HM4 : Hid (w4.ownsRow w.heap.size 3 1 (.slice (some ⟨g2, 0, none⟩) (q + 1) c2) (q + 1) ((List.range' n (x + 1 - n)).map mkN)) := Lib.hid (own_apart (World.ownsRow.alloc HM3.out _) hgrow4 (.inr (by have := HNE.out; simp [Value.ownBlock]; omega)))
        have HNE4 : Hid (g4 ≠ g2) := Lib.hid (by
          have hn1 := HNE.out
          rcases hgg4 with h1 | h1
          · simp only [Value.ownBlock, Option.some.injEq] at h1; omega
          · have hs := HS3.out; (try simp at hs); omega)
        have HB4 : Hid (Below w.heap.size w w4) := Lib.hid (HBa4.out.grown hgrow4 (by have := HS3.out; simp at this ⊢; omega) (own_below HL3.out (Nat.le_refl _)))
        have HS4 : Hid (w2.heap.size + 1 ≤ w4.heap.size ∧ w.heap.size ≤ w4.heap.size) := Lib.hid (by have h1 := hgrow4.size; have h2 := HS3.out; simp at h1 h2; omega)
        have q5 : w4.cell? ⟨w2.heap.size, 5, none⟩ = some (.int .i64 (-1)) := by
          rw [hgrow4.cell_far _ (by simp; omega) (by simp [Value.ownBlock]; omega), World.cell?_of_block (w := (w2.alloc (.cells #[.int .i64 y0, .int .i64 y1, .int .i64 y2, .int .i64 y3, .int .i64 y4, .int .i64 (-1), .int .i64 ((bn : Int))] 34))) (heap_alloc_old _ _ (by simp))]
          rw [Lib.cell_of_heap (heap_alloc_new w2 _)]; rfl
        clear hown4 hgrow4 hgg4
        go_wp2_with fail
        go_step3
        refine ⟨rfl, ⟨x + 1, bn :: r, .slice (some ⟨g2, 0, none⟩) (q + 1) c2, _, by omega, by simp, HN, by rw [HXQ.out]; have := HM4; rw [HXQ.out] at this; exact this, Lib.hid (by have h1 := HL4.out; have h2 := HDD.out; simp only [List.length_cons]; first | (rw [h2]; exact h1) | (simp only [List.length_cons] at h2; rw [h2]; exact h1)), Lib.hid (.inr (by have := HNE4.out; simp [Value.ownBlock]; omega)), Lib.hid (.inr (by have := HNE4.out; simp [Value.ownBlock]; omega)), HB4.out, ⟨rfl, rfl, rfl, rfl, rfl, rfl, rfl, rfl, rfl⟩⟩, ?_⟩
        simp [lenOf]; omega
  · rcases b with _ | bn
    · simp only [encO] at f5 f6
      have hfa : ((an : Int) != -1) = true := by rw [bne_iff_ne]; omega
      have HN : Hid (I (an :: r) (x + 1)) := Lib.hid (by have := HN.out; cases hx : (x == n) <;> rw [hx] at this <;> simpa using this)
      have HB3 : Hid (Below w.heap.size w (w2.alloc (.cells #[.int .i64 y0, .int .i64 y1, .int .i64 y2, .int .i64 y3, .int .i64 y4, .int .i64 ((an : Int)), .int .i64 (-1)] 34))) := Lib.hid (HB2.out.alloc hz2 _)
      have HL3 : Hid ((w2.alloc (.cells #[.int .i64 y0, .int .i64 y1, .int .i64 y2, .int .i64 y3, .int .i64 y4, .int .i64 ((an : Int)), .int .i64 (-1)] 34)).ownsRow w.heap.size 3 1 (.slice (some ⟨gl, 0, none⟩) d cl) d (r.reverse.map mkN)) := Lib.hid (World.ownsRow.alloc HLk.out _)
      have HM3 : Hid ((w2.alloc (.cells #[.int .i64 y0, .int .i64 y1, .int .i64 y2, .int .i64 y3, .int .i64 y4, .int .i64 ((an : Int)), .int .i64 (-1)] 34)).ownsRow w.heap.size 3 1 (.slice (some ⟨g2, 0, none⟩) (q + 1) c2) (q + 1) ((List.range' n (x + 1 - n)).map mkN)) := Lib.hid (World.ownsRow.alloc HM2.out _)
      have hs3 : (w2.alloc (.cells #[.int .i64 y0, .int .i64 y1, .int .i64 y2, .int .i64 y3, .int .i64 y4, .int .i64 ((an : Int)), .int .i64 (-1)] 34)).heap.size = w2.heap.size + 1 := by simp
      have HS3 := Lib.hid hs3
      clear hs3 HLk HM2 HB2
      have HBa4 : Hid (Below w.heap.size w ((w2.alloc (.cells #[.int .i64 y0, .int .i64 y1, .int .i64 y2, .int .i64 y3, .int .i64 y4, .int .i64 ((an : Int)), .int .i64 (-1)] 34)).alloc (.cells #[.int .i64 (an : Int)] 3))) := Lib.hid (HB3.out.alloc (by have := HS3.out; omega) _)
      go_wp2_with (at_builtin; refine wpList_append_lies _ rfl _ _ 22 rfl w.heap.size 3 i0 _ 1 8 Try.underlying22 hi0 hy0 hy1 hy2 rfl (by omega) _ (d) _ rfl (World.ownsRow.alloc HL3.out _) ⟨w2.heap.size + 1, 0, none⟩ 1 1 [.int .i64 (an : Int)] rfl rfl (one_newsN HS3.out _ _ rfl) (by simp [Value.oneCell']) (by omega) (by unfold maxLen; omega) (by omega) (by have := HS3.out; simp at this ⊢; omega) (w2.heap.size + 1 + 1) (by rw [World.size_alloc, HS3.out]) ?_)
      intro g4 c4 w4 hown4 hgrow4 hgg4 hlt4
      have HL4 : Hid (w4.ownsRow w.heap.size 3 1 (.slice (some ⟨g4, 0, none⟩) (d + 1) c4) (d + 1) ((an :: r).reverse.map mkN)) := Lib.hid (by simpa using hown4)
      have HM4 : Hid (w4.ownsRow w.heap.size 3 1 (.slice (some ⟨g2, 0, none⟩) (q + 1) c2) (q + 1) ((List.range' n (x + 1 - n)).map mkN)) := Lib.hid (own_apart (World.ownsRow.alloc HM3.out _) hgrow4 (.inr (by have := HNE.out; simp [Value.ownBlock]; omega)))
      have HNE4 : Hid (g4 ≠ g2) := Lib.hid (by
        have hn1 := HNE.out
        rcases hgg4 with h1 | h1
        · simp only [Value.ownBlock, Option.some.injEq] at h1; omega
        · have hs := HS3.out; (try simp at hs); omega)
      have HB4 : Hid (Below w.heap.size w w4) := Lib.hid (HBa4.out.grown hgrow4 (by have := HS3.out; simp at this ⊢; omega) (own_below HL3.out (Nat.le_refl _)))
      have HS4 : Hid (w2.heap.size + 1 ≤ w4.heap.size ∧ w.heap.size ≤ w4.heap.size) := Lib.hid (by have h1 := hgrow4.size; have h2 := HS3.out; simp at h1 h2; omega)
      clear hown4 hgrow4 hgg4
      go_wp2_with fail
      go_step3
      refine ⟨rfl, ⟨x + 1, an :: r, .slice (some ⟨g2, 0, none⟩) (q + 1) c2, _, by omega, by simp, HN, by rw [HXQ.out]; have := HM4; rw [HXQ.out] at this; exact this, Lib.hid (by have h1 := HL4.out; have h2 := HDD.out; simp only [List.length_cons]; first | (rw [h2]; exact h1) | (simp only [List.length_cons] at h2; rw [h2]; exact h1)), Lib.hid (.inr (by have := HNE4.out; simp [Value.ownBlock]; omega)), Lib.hid (.inr (by have := HNE4.out; simp [Value.ownBlock]; omega)), HB4.out, ⟨rfl, rfl, rfl, rfl, rfl, rfl, rfl, rfl, rfl⟩⟩, ?_⟩
      simp [lenOf]; omega
    · simp only [encO] at f5 f6
      have hfa : ((an : Int) != -1) = true := by rw [bne_iff_ne]; omega
      have hfb : ((bn : Int) != -1) = true := by rw [bne_iff_ne]; omega
      by_cases hxn : x = n
      · have hx1 : ((x : Int) != (n : Int)) = false := by subst hxn; simp
        have hx2 : (x == n) = true := by simp [hxn]
        rw [hx2] at HN
        simp only [Option.toList, cond_true, cond_false, List.nil_append, List.cons_append] at HN
        clear hx2 hxn
        have HB3 : Hid (Below w.heap.size w (w2.alloc (.cells #[.int .i64 y0, .int .i64 y1, .int .i64 y2, .int .i64 y3, .int .i64 y4, .int .i64 ((an : Int)), .int .i64 ((bn : Int))] 34))) := Lib.hid (HB2.out.alloc hz2 _)
        have HL3 : Hid ((w2.alloc (.cells #[.int .i64 y0, .int .i64 y1, .int .i64 y2, .int .i64 y3, .int .i64 y4, .int .i64 ((an : Int)), .int .i64 ((bn : Int))] 34)).ownsRow w.heap.size 3 1 (.slice (some ⟨gl, 0, none⟩) d cl) d (r.reverse.map mkN)) := Lib.hid (World.ownsRow.alloc HLk.out _)
        have HM3 : Hid ((w2.alloc (.cells #[.int .i64 y0, .int .i64 y1, .int .i64 y2, .int .i64 y3, .int .i64 y4, .int .i64 ((an : Int)), .int .i64 ((bn : Int))] 34)).ownsRow w.heap.size 3 1 (.slice (some ⟨g2, 0, none⟩) (q + 1) c2) (q + 1) ((List.range' n (x + 1 - n)).map mkN)) := Lib.hid (World.ownsRow.alloc HM2.out _)
        have hs3 : (w2.alloc (.cells #[.int .i64 y0, .int .i64 y1, .int .i64 y2, .int .i64 y3, .int .i64 y4, .int .i64 ((an : Int)), .int .i64 ((bn : Int))] 34)).heap.size = w2.heap.size + 1 := by simp
        have HS3 := Lib.hid hs3
        clear hs3 HLk HM2 HB2
        have HBa4 : Hid (Below w.heap.size w ((w2.alloc (.cells #[.int .i64 y0, .int .i64 y1, .int .i64 y2, .int .i64 y3, .int .i64 y4, .int .i64 ((an : Int)), .int .i64 ((bn : Int))] 34)).alloc (.cells #[.int .i64 (an : Int)] 3))) := Lib.hid (HB3.out.alloc (by have := HS3.out; omega) _)
        go_wp2_with (at_builtin; refine wpList_append_lies _ rfl _ _ 22 rfl w.heap.size 3 i0 _ 1 8 Try.underlying22 hi0 hy0 hy1 hy2 rfl (by omega) _ (d) _ rfl (World.ownsRow.alloc HL3.out _) ⟨w2.heap.size + 1, 0, none⟩ 1 1 [.int .i64 (an : Int)] rfl rfl (one_newsN HS3.out _ _ rfl) (by simp [Value.oneCell']) (by omega) (by unfold maxLen; omega) (by omega) (by have := HS3.out; simp at this ⊢; omega) (w2.heap.size + 1 + 1) (by rw [World.size_alloc, HS3.out]) ?_)
        intro g4 c4 w4 hown4 hgrow4 hgg4 hlt4
        have HL4 : Hid (w4.ownsRow w.heap.size 3 1 (.slice (some ⟨g4, 0, none⟩) (d + 1) c4) (d + 1) ((an :: r).reverse.map mkN)) := Lib.hid (by simpa using hown4)
        have HM4 : Hid (w4.ownsRow w.heap.size 3 1 (.slice (some ⟨g2, 0, none⟩) (q + 1) c2) (q + 1) ((List.range' n (x + 1 - n)).map mkN)) := Lib.hid (own_apart (World.ownsRow.alloc HM3.out _) hgrow4 (.inr (by have := HNE.out; simp [Value.ownBlock]; omega)))
        have HNE4 : Hid (g4 ≠ g2) := Lib.hid (by
          have hn1 := HNE.out
          rcases hgg4 with h1 | h1
          · simp only [Value.ownBlock, Option.some.injEq] at h1; omega
          · have hs := HS3.out; (try simp at hs); omega)
        have HB4 : Hid (Below w.heap.size w w4) := Lib.hid (HBa4.out.grown hgrow4 (by have := HS3.out; simp at this ⊢; omega) (own_below HL3.out (Nat.le_refl _)))
        have HS4 : Hid (w2.heap.size + 1 ≤ w4.heap.size ∧ w.heap.size ≤ w4.heap.size) := Lib.hid (by have h1 := hgrow4.size; have h2 := HS3.out; simp at h1 h2; omega)
        clear hown4 hgrow4 hgg4
        go_wp2_with fail
        go_step3
        refine ⟨rfl, ⟨x + 1, an :: r, .slice (some ⟨g2, 0, none⟩) (q + 1) c2, _, by omega, by simp, HN, by rw [HXQ.out]; have := HM4; rw [HXQ.out] at this; exact this, Lib.hid (by have h1 := HL4.out; have h2 := HDD.out; simp only [List.length_cons]; first | (rw [h2]; exact h1) | (simp only [List.length_cons] at h2; rw [h2]; exact h1)), Lib.hid (.inr (by have := HNE4.out; simp [Value.ownBlock]; omega)), Lib.hid (.inr (by have := HNE4.out; simp [Value.ownBlock]; omega)), HB4.out, ⟨rfl, rfl, rfl, rfl, rfl, rfl, rfl, rfl, rfl⟩⟩, ?_⟩
        simp [lenOf]; omega
      · have hx1 : ((x : Int) != (n : Int)) = true := by rw [bne_iff_ne]; omega
        have hx2 : (x == n) = false := by simp [hxn]
        rw [hx2] at HN
        simp only [Option.toList, cond_true, cond_false, List.nil_append, List.cons_append] at HN
        clear hx2 hxn
        have HB3 : Hid (Below w.heap.size w (w2.alloc (.cells #[.int .i64 y0, .int .i64 y1, .int .i64 y2, .int .i64 y3, .int .i64 y4, .int .i64 ((an : Int)), .int .i64 ((bn : Int))] 34))) := Lib.hid (HB2.out.alloc hz2 _)
        have HL3 : Hid ((w2.alloc (.cells #[.int .i64 y0, .int .i64 y1, .int .i64 y2, .int .i64 y3, .int .i64 y4, .int .i64 ((an : Int)), .int .i64 ((bn : Int))] 34)).ownsRow w.heap.size 3 1 (.slice (some ⟨gl, 0, none⟩) d cl) d (r.reverse.map mkN)) := Lib.hid (World.ownsRow.alloc HLk.out _)
        have HM3 : Hid ((w2.alloc (.cells #[.int .i64 y0, .int .i64 y1, .int .i64 y2, .int .i64 y3, .int .i64 y4, .int .i64 ((an : Int)), .int .i64 ((bn : Int))] 34)).ownsRow w.heap.size 3 1 (.slice (some ⟨g2, 0, none⟩) (q + 1) c2) (q + 1) ((List.range' n (x + 1 - n)).map mkN)) := Lib.hid (World.ownsRow.alloc HM2.out _)
        have hs3 : (w2.alloc (.cells #[.int .i64 y0, .int .i64 y1, .int .i64 y2, .int .i64 y3, .int .i64 y4, .int .i64 ((an : Int)), .int .i64 ((bn : Int))] 34)).heap.size = w2.heap.size + 1 := by simp
        have HS3 := Lib.hid hs3
        clear hs3 HLk HM2 HB2
        have HBa4 : Hid (Below w.heap.size w ((w2.alloc (.cells #[.int .i64 y0, .int .i64 y1, .int .i64 y2, .int .i64 y3, .int .i64 y4, .int .i64 ((an : Int)), .int .i64 ((bn : Int))] 34)).alloc (.cells #[.int .i64 (bn : Int)] 3))) := Lib.hid (HB3.out.alloc (by have := HS3.out; omega) _)
        go_wp2_with (at_builtin; refine wpList_append_lies _ rfl _ _ 22 rfl w.heap.size 3 i0 _ 1 8 Try.underlying22 hi0 hy0 hy1 hy2 rfl (by omega) _ (d) _ rfl (World.ownsRow.alloc HL3.out _) ⟨w2.heap.size + 1, 0, none⟩ 1 1 [.int .i64 (bn : Int)] rfl rfl (one_newsN HS3.out _ _ rfl) (by simp [Value.oneCell']) (by omega) (by unfold maxLen; omega) (by omega) (by have := HS3.out; simp at this ⊢; omega) (w2.heap.size + 1 + 1) (by rw [World.size_alloc, HS3.out]) ?_)
        intro g4 c4 w4 hown4 hgrow4 hgg4 hlt4
        have HL4 : Hid (w4.ownsRow w.heap.size 3 1 (.slice (some ⟨g4, 0, none⟩) (d + 1) c4) (d + 1) ((bn :: r).reverse.map mkN)) := Lib.hid (by simpa using hown4)
        have HM4 : Hid (w4.ownsRow w.heap.size 3 1 (.slice (some ⟨g2, 0, none⟩) (q + 1) c2) (q + 1) ((List.range' n (x + 1 - n)).map mkN)) := Lib.hid (own_apart (World.ownsRow.alloc HM3.out _) hgrow4 (.inr (by have := HNE.out; simp [Value.ownBlock]; omega)))
        have HNE4 : Hid (g4 ≠ g2) := Lib.hid (by
          have hn1 := HNE.out
          rcases hgg4 with h1 | h1
          · simp only [Value.ownBlock, Option.some.injEq] at h1; omega
          · have hs := HS3.out; (try simp at hs); omega)
        have HB4 : Hid (Below w.heap.size w w4) := Lib.hid (HBa4.out.grown hgrow4 (by have := HS3.out; simp at this ⊢; omega) (own_below HL3.out (Nat.le_refl _)))
        have HS4 : Hid (w2.heap.size + 1 ≤ w4.heap.size ∧ w.heap.size ≤ w4.heap.size) := Lib.hid (by have h1 := hgrow4.size; have h2 := HS3.out; simp at h1 h2; omega)
        have q5 : w4.cell? ⟨w2.heap.size, 5, none⟩ = some (.int .i64 (an : Int)) := by
          rw [hgrow4.cell_far _ (by simp; omega) (by simp [Value.ownBlock]; omega), World.cell?_of_block (w := (w2.alloc (.cells #[.int .i64 y0, .int .i64 y1, .int .i64 y2, .int .i64 y3, .int .i64 y4, .int .i64 ((an : Int)), .int .i64 ((bn : Int))] 34))) (heap_alloc_old _ _ (by simp))]
          rw [Lib.cell_of_heap (heap_alloc_new w2 _)]; rfl
        clear hown4 hgrow4 hgg4
        have HBa5 : Hid (Below w.heap.size w (w4.alloc (.cells #[.int .i64 (an : Int)] 3))) := Lib.hid (HB4.out.alloc (by have := HS4.out; omega) _)
        go_wp2_with (at_builtin; refine wpList_append_lies _ rfl _ _ 22 rfl w.heap.size 3 i0 _ 1 8 Try.underlying22 hi0 hy0 hy1 hy2 rfl (by omega) _ (d + 1) _ rfl (World.ownsRow.alloc HL4.out _) ⟨w4.heap.size, 0, none⟩ 1 1 [.int .i64 (an : Int)] rfl rfl (one_news _ _ _ rfl) (by simp [Value.oneCell']) (by omega) (by unfold maxLen; omega) (by omega) (by have := HS4.out; simp at this ⊢; omega) (w4.heap.size + 1) (by rw [World.size_alloc]) ?_)
        intro g5 c5 w5 hown5 hgrow5 hgg5 hlt5
        have HL5 : Hid (w5.ownsRow w.heap.size 3 1 (.slice (some ⟨g5, 0, none⟩) (d + 1 + 1) c5) (d + 1 + 1) ((an :: bn :: r).reverse.map mkN)) := Lib.hid (by simpa using hown5)
        have HM5 : Hid (w5.ownsRow w.heap.size 3 1 (.slice (some ⟨g2, 0, none⟩) (q + 1) c2) (q + 1) ((List.range' n (x + 1 - n)).map mkN)) := Lib.hid (own_apart (World.ownsRow.alloc HM4.out _) hgrow5 (.inr (by have := HNE4.out; simp [Value.ownBlock]; omega)))
        have HNE5 : Hid (g5 ≠ g2) := Lib.hid (by
          have hn1 := HNE4.out
          rcases hgg5 with h1 | h1
          · simp only [Value.ownBlock, Option.some.injEq] at h1; omega
          · have hs := HS4.out; (try simp at hs); omega)
        have HB5 : Hid (Below w.heap.size w w5) := Lib.hid (HBa5.out.grown hgrow5 (by have := HS4.out; simp at this ⊢; omega) (own_below HL4.out (Nat.le_refl _)))
        have HS5 : Hid (w2.heap.size + 1 ≤ w5.heap.size ∧ w.heap.size ≤ w5.heap.size) := Lib.hid (by have h1 := hgrow5.size; have h2 := HS4.out; simp at h1 h2; omega)
        clear hown5 hgrow5 hgg5
        go_wp2_with fail
        go_step3
        refine ⟨rfl, ⟨x + 1, an :: bn :: r, .slice (some ⟨g2, 0, none⟩) (q + 1) c2, _, by omega, by simp, HN, by rw [HXQ.out]; have := HM5; rw [HXQ.out] at this; exact this, Lib.hid (by have h1 := HL5.out; have h2 := HDD.out; simp only [List.length_cons]; first | (rw [h2]; exact h1) | (simp only [List.length_cons] at h2; rw [h2]; exact h1)), Lib.hid (.inr (by have := HNE5.out; simp [Value.ownBlock]; omega)), Lib.hid (.inr (by have := HNE5.out; simp [Value.ownBlock]; omega)), HB5.out, ⟨rfl, rfl, rfl, rfl, rfl, rfl, rfl, rfl, rfl⟩⟩, ?_⟩
        simp [lenOf]; omega

end Go.Proofs.Ytcijjeflojaocaa
