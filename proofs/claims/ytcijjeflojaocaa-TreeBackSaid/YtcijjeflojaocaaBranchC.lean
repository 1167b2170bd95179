/-
  Branch: a node's part, copied out of a tree.
-/
import Derived.Test.YtcijjeflojaocaaBranchB
import Derived.Deep.AppendLies
namespace Go.Proofs.Ytcijjeflojaocaa
open Go.RowKit
set_option linter.unusedVariables false
set_option linter.unusedSimpArgs false

mutual
/-- Each part's names are as many as it says. -/
def Br.Lens : Br → Prop
  | .mk h ks => h.nn = h.ns.length ∧ LensAll ks
def LensAll : List Br → Prop
  | [] => True
  | b :: r => b.Lens ∧ LensAll r
end
theorem lensAll_iff (ks : List Br) : LensAll ks ↔ ∀ b ∈ ks, b.Lens := by
  induction ks with
  | nil => simp [LensAll]
  | cons x r ih => simp [LensAll, ih]
theorem lens_of_lies {w : World} (b : Br) : b.Lies w → b.Lens := by
  induction b using Br.ind with
  | hP h ks ih =>
    intro hl
    rw [lies_iff] at hl
    simp only [Br.Lens, lensAll_iff]
    exact ⟨hl.1.1, fun x hx => ih x hx (hl.2.2 x hx)⟩
theorem Fs.form {a : Act} {N : Nat} {L : List (Nat × Value)} (h : Fs a N L) : ∃ u : Nat → Value, a = { tmps := ((List.range N).map fun i => (L.lookup i).getD (u i)).toArray, defers := [] } := by
  obtain ⟨hs, hd, hl⟩ := h
  refine ⟨fun i => a.tmps.getD i undef, ?_⟩
  obtain ⟨t, d⟩ := a
  simp only at hs hd
  subst hd
  congr 1
  refine Array.ext (by simp [hs]) fun i hi1 hi2 => ?_
  simp only [List.getElem_toArray, List.getElem_map, List.getElem_range]
  have h1 : t.getD i undef = t[i] := by simp [hi1]
  cases hk : L.lookup i with
  | none => simp only [Option.getD_none]; exact h1.symm
  | some v =>
    simp only [Option.getD_some]
    have := hl i v hk
    simp only [Act.eval] at this
    rw [← this, h1]

/-- Copies lie, apart from block bb and from v's own. -/
def Copies (N bb : Nat) (v : Value) (w : World) (cs : List Br) : Prop := ∀ y ∈ cs, y.Lies w ∧ y.Fits ∧ y.On fun k => N ≤ k ∧ k ≠ bb ∧ some k ≠ v.ownBlock
theorem copies_next {N bb g4 : Nat} {v v4 : Value} {wr w2 w4 : World} {cs : List Br} {y : Br} {o : Obj} (u : Value) (off : Nat) (hC : Copies N bb v wr cs) (hbb : bb < wr.heap.size) (hvb : ∀ q, v.ownBlock = some q → q < wr.heap.size) (hN : N ≤ wr.heap.size)
    (hB2 : Below wr.heap.size wr w2) (hgrow : (w2.alloc o).grownBy w4 v.ownBlock) (hat : v.ownBlock = some g4 ∨ g4 = w2.heap.size + 1) (h4 : v4.ownBlock = some g4) (hyl : y.Lies w2) (hyo : y.On fun q => wr.heap.size ≤ q) (hyf : y.Fits) :
    Copies N bb v4 (w4.setCell ⟨bb, off, none⟩ u) (cs ++ [y]) := by
  have hz2 := hB2.size
  have hz4 : w2.heap.size + 1 ≤ w4.heap.size := by have := hgrow.size; simpa using this
  have hB3 : Below wr.heap.size wr (w2.alloc o) := hB2.alloc hz2 o
  -- what lies in w2.alloc o apart from v's own block and from bb lies at the end
  have key : ∀ b : Br, b.Lies (w2.alloc o) → (b.On fun k => k ≠ bb ∧ some k ≠ v.ownBlock) → b.Lies (w4.setCell ⟨bb, off, none⟩ u) := fun b hl ho => by
    refine Br.Lies.kept (P := fun k => k ≠ bb ∧ some k ≠ v.ownBlock) b (by have := hgrow.size; simpa using this) (fun k hk hlt => ?_) ho hl
    rw [Below.heap_setCell _ _ _ _ hk.1]
    exact hgrow.block k hlt hk.2
  intro b hb
  rcases List.mem_append.1 hb with hb | hb
  · obtain ⟨hl, hf, ho⟩ := hC b hb
    refine ⟨key b (hl.step _ hB3) (ho.mono (fun k hk => ⟨hk.2.1, hk.2.2⟩) _), hf, (Br.On.low b ho hl).mono (fun k hk => ⟨hk.1.1, hk.1.2.1, fun he => ?_⟩) _⟩
    rw [h4] at he
    rcases hat with h | h
    · exact hk.1.2.2 (he.trans h.symm)
    · have := Option.some.inj he
      have := hk.2
      omega
  · obtain rfl := List.mem_singleton.1 hb
    have hlow := Br.On.low b hyo hyl
    refine ⟨key b (hyl.step _ ((Below.refl _ _).alloc (Nat.le_refl _) o)) (hyo.mono (fun k hk => ⟨by omega, fun he => ?_⟩) _), hyf, hlow.mono (fun k hk => ⟨by omega, by omega, fun he => ?_⟩) _⟩
    · have := hvb k he.symm
      omega
    · rw [h4] at he
      have hkg := Option.some.inj he
      rcases hat with h | h
      · have := hvb g4 h
        omega
      · omega
theorem names_next {bb g4 : Nat} {v v4 : Value} {wr w2 w4 : World} {o : Obj} {pn : Option Addr} {n cn : Nat} {ns : List Int} (u : Value) (off : Nat) (hin : In mkI wr pn n cn ns) (hfr : ∀ q, pn = some q → n ≠ 0 → q.block ≠ bb) (hfv : ∀ q, pn = some q → n ≠ 0 → some q.block ≠ v.ownBlock)
    (hB2 : Below wr.heap.size wr w2) (hgrow : (w2.alloc o).grownBy w4 v.ownBlock) (hat : v.ownBlock = some g4 ∨ g4 = w2.heap.size + 1) (h4 : v4.ownBlock = some g4) :
    In mkI (w4.setCell ⟨bb, off, none⟩ u) pn n cn ns ∧ ∀ q, pn = some q → n ≠ 0 → some q.block ≠ v4.ownBlock := by
  have hz2 := hB2.size
  have hB3 : Below wr.heap.size wr (w2.alloc o) := hB2.alloc hz2 o
  refine ⟨in_kept (hin.step hB3) (by have := hgrow.size; simpa using this) (fun q hn hq => ?_), fun q hq hn he => ?_⟩
  · rw [Below.heap_setCell _ _ _ _ (hfr q hq hn)]
    have hlt := in_block hin q hn hq
    exact hgrow.block _ (Nat.lt_of_lt_of_le hlt hB3.size) (hfv q hq hn)
  · rw [h4] at he
    rcases hat with h | h
    · exact hfv q hq hn (he.trans h.symm)
    · have := Option.some.inj he
      have := in_block hin q hn hq
      omega
theorem branch_result {wr wF : World} {N bb rb M : Nat} (hd : Hd) (ks cs : List Br) (pn : Option Addr) (cn : Nat) (p5 : Option Addr) (j c5 : Nat) (hjk : j = ks.length) (hcs : cs.length = j ∧ sames cs (ks.take j) = true)
    (hin : In mkI wr pn hd.ns.length cn hd.ns) (hfn : ∀ q, pn = some q → hd.ns.length ≠ 0 → rb < q.block) (hkids : KidsIn wr p5 j c5 cs) (hfk : ∀ q, (Value.slice p5 j c5).ownBlock = some q → rb < q)
    (hC : Copies N bb (.slice p5 j c5) wr cs) (hN : rb < N) (hM : M ≤ rb) (hkeep : ∀ q, q ≠ rb → wF.heap[q]? = wr.heap[q]?) (hsz : wr.heap.size ≤ wF.heap.size) (hfit : hd.nn * 8 ≤ 140737488355328) (hnn : hd.nn = hd.ns.length) :
    Br.Lies wF (.mk ⟨hd.k, hd.m, hd.f, hd.t, pn, hd.ns.length, cn, hd.ns, p5, j, c5⟩ cs) ∧ Br.On (fun q => M ≤ q) (.mk ⟨hd.k, hd.m, hd.f, hd.t, pn, hd.ns.length, cn, hd.ns, p5, j, c5⟩ cs) ∧ Br.same (.mk ⟨hd.k, hd.m, hd.f, hd.t, pn, hd.ns.length, cn, hd.ns, p5, j, c5⟩ cs) (.mk hd ks) = true ∧ Br.Fits (.mk ⟨hd.k, hd.m, hd.f, hd.t, pn, hd.ns.length, cn, hd.ns, p5, j, c5⟩ cs) := by
  have hblk : ∀ a, j ≠ 0 → p5 = some a → rb < a.block := fun a hj ha => by
    subst ha
    exact hfk a.block rfl
  refine ⟨?_, ?_, ?_, ?_⟩
  · rw [lies_iff]
    refine ⟨in_kept hin hsz fun q hn hq => hkeep _ (by have := hfn q hq hn; omega), kids_kept hkids hsz fun a hj ha => hkeep _ (by have := hblk a hj ha; omega), fun x hx => ?_⟩
    obtain ⟨h1, _, h3⟩ := hC x hx
    exact Br.Lies.kept (P := fun k => N ≤ k) x hsz (fun k hk _ => hkeep k (by omega)) (h3.mono (fun k hk => hk.1) _) h1
  · rw [on_iff]
    refine ⟨fun a hn ha => by have := hfn a ha hn; omega, fun a hj ha => by have := hblk a hj ha; omega, fun x hx => ?_⟩
    exact (hC x hx).2.2.mono (fun k hk => by have := hk.1; omega) _
  · have h2 := hcs.2
    rw [hjk, List.take_length] at h2
    have h1 : cs.length = ks.length := by rw [hcs.1, hjk]
    simp [Br.same, Br.h, Br.ks, sameI_refl, h1, h2]
  · simp only [Br.Fits, fitsAll_iff]
    exact ⟨by rw [← hnn]; exact hfit, fun x hx => (hC x hx).2.1⟩

theorem hcells_one (h : Hd) : ∀ u ∈ hcells h, u.oneCell' = true := by
  intro u hu
  simp only [hcells, List.mem_cons, List.not_mem_nil, or_false] at hu
  rcases hu with rfl | rfl | rfl | rfl | rfl | rfl <;> rfl

set_option maxHeartbeats 8000000 in
set_option maxRecDepth 20000 in
theorem branch_yes {T g c : Nat} (b0 : Br) (hsz0 : b0.size ≤ 1000) (x : Br) : ∀ (k : Nat) (w : World) (en : Ent), b0.all[k]? = some en → en.b = x → Arena w T g c b0.knots → x.Fits → x.Lens →
    Calls Try.prog 20 #[.pointer (some ⟨T, 0, none⟩), .int .i64 k] w fun e' w' => ∃ y : Br, e' = .returned y.h.val ∧ y.Lies w' ∧ y.On (fun q => w.heap.size ≤ q) ∧ y.same x = true ∧ y.Fits ∧ Below w.heap.size w w' := by
  obtain ⟨i0, hi0, hy0, hy1, hy2⟩ := info_parts info25
  induction x using Br.ind with
  | hP hd ks ih =>
    intro k w en hen henb har hfit hlens
    simp only [Br.Lens, lensAll_iff] at hlens
    obtain ⟨hnn, hlens2⟩ := hlens
    have hkn : k < b0.knots.length := by
      have := (List.getElem?_eq_some_iff.1 hen).1
      rw [knots_length, ← all_length]; exact this
    have hkl := kids_le hen
    have hpos := pos_of_all hen
    have hget := knots_get hen hkn
    have HCH := Lib.hid (chain_knots hen)
    have HKO := Lib.hid (fun j hj o ho => kidB_of hen j hj o ho)
    rw [henb] at HCH HKO hkl
    simp only [Br.ks] at HCH HKO hkl
    have hfo := firstOf (.mk hd ks) k
    have hw1b : Below w.heap.size w (w.alloc (.cells #[.int .i64 0, .int .i64 0, .int .i64 0, .int .i64 0, .slice none 0 0, .slice none 0 0] 25)) := (Below.refl _ _).alloc (Nat.le_refl _) _
    have HRES := Lib.hid (heap_alloc_new w (.cells #[.int .i64 0, .int .i64 0, .int .i64 0, .int .i64 0, .slice none 0 0, .slice none 0 0] 25))
    have hz1 : (w.alloc (.cells #[.int .i64 0, .int .i64 0, .int .i64 0, .int .i64 0, .slice none 0 0, .slice none 0 0] 25)).heap.size = w.heap.size + 1 := by simp
    have HB1 := Lib.hid hw1b
    have HZ1 := Lib.hid hz1
    have har1 := har.step hw1b
    have H := Lib.hid (has_yes k _ har1 hkn)
    have HA := Lib.hid har1
    obtain ⟨h1, _, _, _, _, h6⟩ := har1
    obtain ⟨p, n', cc, ⟨a0, a1, a2, a3, a4, a5, a6, a7, a8⟩, hin⟩ := h6 k hkn
    rw [hget] at a0 a1 a2 a3 a4 a5 a6 hin
    simp only [Ent.kn, hpos, henb, Br.h] at a0 a1 a2 a3 a4 a5 a6 hin
    simp only [Br.Fits, fitsAll_iff] at hfit
    have hk1 : (0 : Int) ≤ (k : Int) := by omega
    have hk2 : (k : Int) < (b0.knots.length : Int) := by omega
    have hks : ks.length ≤ 1000 := by omega
    have hlo : (offs (k + 1) ks).length = ks.length := offs_length _ _
    have HLO := Lib.hid hlo
    have hns : hd.ns.length * 8 ≤ 140737488355328 := by rw [← hnn]; exact hfit.1
    have hnms := fun W (hW : Arena W T g c b0.knots) => names_yes k W hW hkn
    rw [hget] at hnms
    simp only [Ent.kn, henb, Br.h] at hnms
    have hnms := fun W hW => hnms W hW hns
    have HNM := Lib.hid hnms
    have HI := Lib.hid ih
    have HF2 := Lib.hid hfit
    have HLE2 := Lib.hid hlens2
    clear har ih hfit h6 hin hen henb hget hpos hfo hnms hw1b hlo hlens2
    generalize firstOf (.mk hd ks) k = x0 at *
    go_enter Try.func20, Try.ntmps20
    go_wp2_with fail
    refine H.out.mono ?_
    rintro e w1 ⟨rfl, rfl⟩
    go_wp2_with fail
    generalize hW1 : ((w.alloc (.cells #[.int .i64 0, .int .i64 0, .int .i64 0, .int .i64 0, .slice none 0 0, .slice none 0 0] 25)).alloc (.cells #[.int .i64 hd.k, .int .i64 hd.m, .int .i64 hd.f, .int .i64 hd.t, .int .i64 en.up, .int .i64 x0, .int .i64 en.next] 34)) = W1 at *
    have hbW : Below (w.heap.size + 1) (w.alloc (.cells #[.int .i64 0, .int .i64 0, .int .i64 0, .int .i64 0, .slice none 0 0, .slice none 0 0] 25)) W1 := by
      rw [← hW1, ← hz1]; exact (Below.refl _ _).alloc (Nat.le_refl _) _
    have hzW : W1.heap.size = w.heap.size + 2 := by rw [← hW1]; simp
    have hkb : W1.heap[w.heap.size + 1]? = some (.cells #[.int .i64 hd.k, .int .i64 hd.m, .int .i64 hd.f, .int .i64 hd.t, .int .i64 en.up, .int .i64 x0, .int .i64 en.next] 34) := by
      rw [← hW1, ← hz1]; exact heap_alloc_new _ _
    have HBW := Lib.hid (HB1.out.trans (hbW.mono (by omega)))
    have HAW := Lib.hid (HA.out.step (by rw [hz1]; exact hbW))
    have HRW := Lib.hid ((hbW.block w.heap.size (by omega)).trans HRES.out)
    have HKX : Hid (∀ W, Below W1.heap.size W1 W → W.cell? ⟨w.heap.size + 1, 0, none⟩ = some (.int .i64 hd.k) ∧ W.cell? ⟨w.heap.size + 1, 1, none⟩ = some (.int .i64 hd.m) ∧ W.cell? ⟨w.heap.size + 1, 2, none⟩ = some (.int .i64 hd.f) ∧ W.cell? ⟨w.heap.size + 1, 3, none⟩ = some (.int .i64 hd.t) ∧ W.cell? ⟨w.heap.size + 1, 5, none⟩ = some (.int .i64 x0)) := Lib.hid fun W hW => by
      have hlt : w.heap.size + 1 < W1.heap.size := by omega
      refine ⟨?_, ?_, ?_, ?_, ?_⟩ <;> (rw [hW.cell (by exact hlt), Lib.cell_of_heap hkb]; rfl)
    have HN14 := Lib.hid (fun W (hW : Below W1.heap.size W1 W) => HNM.out W (HAW.out.step hW))
    clear hW1 hbW hkb HB1 HZ1 hz1 HRES HA H a0 a1 a2 a3 a4 a5 a6 a7 a8 h1 HNM
    refine regionB4 T k w.heap.size (w.heap.size + 1) hd.k hd.m hd.f hd.t hd.ns (Fs.of rfl rfl (by simp [Act.eval])) (fun W hW => ⟨(HKX.out W hW).1, (HKX.out W hW).2.1, (HKX.out W hW).2.2.1, (HKX.out W hW).2.2.2.1⟩) HN14.out ?_ ?_
    · intro c a a' w hd h
      have h2 : a.defers = [] ∧ _ := h
      exact ⟨hd.trans h2.1, h2.2⟩
    intro a2 w2 bb pn cn hF hbb hrow hin2 hfr2 hB2
    obtain ⟨u, rfl⟩ := hF.form
    rw [show (List.range 55).map (fun i => (List.lookup i [(0, .pointer (some ⟨T, 0, none⟩)), (1, .int .i64 (k : Int)), (4, .pointer (some ⟨w.heap.size, 0, none⟩)), (5, .pointer (some ⟨w.heap.size + 1, 0, none⟩)), (6, .pointer (some ⟨bb, 0, none⟩))]).getD (u i)) = [.pointer (some ⟨T, 0, none⟩), .int .i64 (k : Int), u 2, u 3, .pointer (some ⟨w.heap.size, 0, none⟩), .pointer (some ⟨w.heap.size + 1, 0, none⟩), .pointer (some ⟨bb, 0, none⟩), u 7, u 8, u 9, u 10, u 11, u 12, u 13, u 14, u 15, u 16, u 17, u 18, u 19, u 20, u 21, u 22, u 23, u 24, u 25, u 26, u 27, u 28, u 29, u 30, u 31, u 32, u 33, u 34, u 35, u 36, u 37, u 38, u 39, u 40, u 41, u 42, u 43, u 44, u 45, u 46, u 47, u 48, u 49, u 50, u 51, u 52, u 53, u 54] from by kernel_rfl]
    obtain ⟨q0, q1, q2, q3, q5⟩ := HKX.out w2 hB2
    have hrb := own_bound hrow
    have hbb2 : bb < w2.heap.size := hrb.2.1
    have HROW := Lib.hid hrow
    have HIN2 := Lib.hid hin2
    have HFR2 := Lib.hid hfr2
    have HB2 := Lib.hid hB2
    clear hF hrow hin2 hfr2 hB2 hrb
    generalize hO : offs (k + 1) ks = O at *
    have HOO := Lib.hid hO
    clear hO
    have hol : O.length = ks.length := HLO.out
    go_wp2_with fail
    go_loopg [7] O.length (fun gk iv wr => ∃ (j : Nat) (x : Int) (p5 : Option Addr) (c5 : Nat) (cs : List Br), gk + j = O.length ∧ iv = .int .i64 x ∧ Hid (Chain (fun i => b0.knots[i]?.map Kn.next) x (O.drop j)) ∧ Hid (cs.length = j ∧ sames cs (ks.take j) = true) ∧ Hid (Copies W1.heap.size bb (.slice p5 j c5) wr cs) ∧ Hid (wr.ownsRow W1.heap.size 25 6 (.slice p5 j c5) j (cellsK cs)) ∧ Hid ((Value.slice p5 j c5).ownBlock ≠ some bb) ∧ Hid (wr.ownsRow bb 25 6 (.slice (some ⟨bb, 0, none⟩) 1 1) 1 [.int .i64 hd.k, .int .i64 hd.m, .int .i64 hd.f, .int .i64 hd.t, .slice pn hd.ns.length cn, .slice p5 j c5]) ∧ Hid (In mkI wr pn hd.ns.length cn hd.ns) ∧ Hid (∀ q, pn = some q → hd.ns.length ≠ 0 → some q.block ≠ (Value.slice p5 j c5).ownBlock) ∧ Hid (bb < wr.heap.size) ∧ Below W1.heap.size W1 wr)
    case atStart => exact ⟨0, x0, none, 0, [], by omega, rfl, Lib.hid (by simpa using HCH.out), Lib.hid ⟨rfl, rfl⟩, Lib.hid (fun y hy => by cases hy), Lib.hid (World.ownsRow_nil _ _ _ _), Lib.hid (by simp [Value.ownBlock]), HROW, HIN2, Lib.hid (fun q _ _ => by simp [Value.ownBlock]), Lib.hid hbb2, HB2.out⟩
    case round =>
      obtain ⟨j, x, p5, c5, cs, hj, rfl, HCHr, HCS, HCP, HO, HNE, HBX, HINr, HFV, HBS, hbe⟩ := hrel
      have hz := hbe.size
      have ck := own_cell HBX.out
      have cb5 := ck 5 _ rfl
      by_cases hlt : j < O.length
      · have hch := HCHr.out
        rw [List.drop_eq_getElem_cons hlt] at hch
        obtain ⟨rfl, yi, hy, hch2⟩ := hch
        have hy' : b0.knots[O[j]]?.map Kn.next = some yi := hy
        have HY := Lib.hid hy'
        have HCH2 := Lib.hid hch2
        have hlk : j < ks.length := by omega
        obtain ⟨e', he', heb'⟩ := HKO.out j hlk O[j] (List.getElem?_eq_getElem hlt)
        have hmem := List.getElem_mem hlk
        have HX : Hid (∀ W, Below wr.heap.size wr W → Calls Try.prog 20 #[.pointer (some ⟨T, 0, none⟩), .int .i64 (O[j] : Nat)] W fun e' w' => ∃ y : Br, e' = .returned y.h.val ∧ y.Lies w' ∧ y.On (fun q => W.heap.size ≤ q) ∧ y.same ks[j] = true ∧ y.Fits ∧ Below W.heap.size W w') := Lib.hid fun W hW => HI.out ks[j] hmem O[j] W e' he' heb' (HAW.out.step (hbe.trans (hW.mono hz))) (HF2.out.2 _ hmem) (HLE2.out _ hmem)
        have HK5 : Hid (∀ W, Below wr.heap.size wr W → W.cell? ⟨bb, 5, none⟩ = some (.slice p5 j c5)) := Lib.hid fun W hW => by
          rw [hW.cell (by exact HBS.out)]; exact cb5
        have HT : Hid (ks.take (j + 1) = ks.take j ++ [ks[j]]) := Lib.hid (List.take_succ_eq_append_getElem hlk)
        have hne : (((O[j] : Nat) : Int) != -1) = true := by rw [bne_iff_ne]; omega
        have hne2 : (((O[j] : Nat) : Int) == -1) = false := by rw [beq_eq_false_iff_ne]; omega
        have hm := ((HAW.out.step hbe).next hy').1
        have hr1 : (0 : Int) ≤ ((O[j] : Nat) : Int) := by omega
        have hr2 : ((O[j] : Nat) : Int) < (b0.knots.length : Int) := by omega
        have hjl : j ≤ 1000 := by omega
        have HBE := Lib.hid hbe
        have hN1 : W1.heap.size ≤ wr.heap.size := hz
        clear hch2 hy hy' he' heb' hmem hbe ck hm
        generalize O[j] = o at *
        generalize ks[j] = kid at *
        go_wp2_with fail
        refine wp_region_till (fun W => Below wr.heap.size wr W) 6 (by kernel_rfl) ?_
        have hHeld : (fun W => Below wr.heap.size wr W) wr.drew := (Below.refl wr.heap.size wr).drew
        refine wpTill_take 0 [1, 6] (oi := { dst := some 46, op := Op.fieldAddr 25 (Operand.tmp 6) 5, type := 0, pos := "tree.go:162", after := #[], guard := none }) (v := ?v0) rfl (by kernel_rfl) (by kernel_rfl) (by kernel_rfl) (by kernel_rfl) (fun _ _ _ h => h) (Or.inl ⟨by rfl, ?hy0⟩) (by assumption) ?rest0
        case hy0 => (intro w' hSw; (try dsimp only at hSw); have hck := HK5.out _ hSw; go_simp; try with_reducible rfl)
        case' rest0 => (try simp only [Act.put, List.setIfInBounds_toArray, List.set_cons_zero, List.set_cons_succ])
        refine wpTill_take 1 [6] (oi := { dst := some 47, op := Op.load 23 (Operand.tmp 46), type := 23, pos := "tree.go:162", after := #[{ on := 0, ground := Ground.data }], guard := none }) (v := ?v1) rfl (by kernel_rfl) (by kernel_rfl) (by kernel_rfl) (by kernel_rfl) (fun _ _ _ h => h) (Or.inl ⟨by rfl, ?hy1⟩) (by assumption) ?rest1
        case hy1 => (intro w' hSw; (try dsimp only at hSw); have hck := HK5.out _ hSw; go_simp; try with_reducible rfl)
        case' rest1 => (try simp only [Act.put, List.setIfInBounds_toArray, List.set_cons_zero, List.set_cons_succ])
        refine wpTill_take 2 [4, 6] (oi := { dst := some 48, op := Op.move (Operand.tmp 0), type := 28, pos := "tree.go:162", after := #[], guard := none }) (v := ?v2) rfl (by kernel_rfl) (by kernel_rfl) (by kernel_rfl) (by kernel_rfl) (fun _ _ _ h => h) (Or.inl ⟨by rfl, ?hy2⟩) (by assumption) ?rest2
        case hy2 => (intro w' hSw; (try dsimp only at hSw); have hck := HK5.out _ hSw; go_simp; try with_reducible rfl)
        case' rest2 => (try simp only [Act.put, List.setIfInBounds_toArray, List.set_cons_zero, List.set_cons_succ])
        refine wpTill_take 3 [4, 6] (oi := { dst := some 49, op := Op.move (Operand.tmp 7), type := 3, pos := "tree.go:162", after := #[], guard := none }) (v := ?v3) rfl (by kernel_rfl) (by kernel_rfl) (by kernel_rfl) (by kernel_rfl) (fun _ _ _ h => h) (Or.inl ⟨by rfl, ?hy3⟩) (by assumption) ?rest3
        case hy3 => (intro w' hSw; (try dsimp only at hSw); have hck := HK5.out _ hSw; go_simp; try with_reducible rfl)
        case' rest3 => (try simp only [Act.put, List.setIfInBounds_toArray, List.set_cons_zero, List.set_cons_succ])
        refine wpTill_one 4 (o := { dst := some 50, op := Op.call { callee := Callee.value (Operand.func 20), args := #[Operand.tmp 48, Operand.tmp 49], argTypes := #[28, 3] }, type := 25, pos := "tree.go:162", after := #[{ on := 2, ground := Ground.data }, { on := 3, ground := Ground.data }], guard := none }) (by kernel_rfl) rfl ?_
        intro K' hK
        go_simp
        go_at_call 20
        refine (HX.out _ hHeld).mono ?_
        rintro e w2 ⟨y, rfl, hyl, hyo, hys, hyf, hb2⟩
        have hB2 : Below wr.heap.size wr w2 := (Below.refl wr.heap.size wr).drew.trans hb2
        have HYL := Lib.hid hyl
        have HYO := Lib.hid hyo
        have HYS := Lib.hid hys
        have HYF := Lib.hid hyf
        have HB2 := Lib.hid hB2
        have hz2 := hB2.size
        refine hK.out _ _ (fun _ => hB2) ?_
        clear hK K' hHeld hyl hyo hys hyf hb2
        have hHeld : (fun W => Below wr.heap.size wr W) w2 := hB2
        clear hB2
        try simp only [Act.put, List.setIfInBounds_toArray, List.set_cons_zero, List.set_cons_succ]
        refine wpTill_one 5 (o := { dst := some 51, op := Op.buildSlice 23 1 #[(0, Operand.tmp 50)], type := 23, pos := "tree.go:162", after := #[{ on := 4, ground := Ground.data }], guard := none }) (by kernel_rfl) rfl ?_
        intro K' hK
        go_simp
        refine hK.out _ _ (fun _ => hHeld.alloc hz2 _) ?_
        clear hK K'
        try simp only [Act.put, List.setIfInBounds_toArray, List.set_cons_zero, List.set_cons_succ]
        have hown3 := row_step HO.out (HB2.out.alloc hz2 (.cells #[.int .i64 y.h.k, .int .i64 y.h.m, .int .i64 y.h.f, .int .i64 y.h.t, .slice y.h.np y.h.nn y.h.nc, .slice y.h.kp y.h.kn y.h.kc] 25))
        have HO3 := Lib.hid hown3
        have HN3 := Lib.hid (World.news_of_block (heap_alloc_new w2 (.cells #[.int .i64 y.h.k, .int .i64 y.h.m, .int .i64 y.h.f, .int .i64 y.h.t, .slice y.h.np y.h.nn y.h.nc, .slice y.h.kp y.h.kn y.h.kc] 25)))
        clear hown3
        refine wpTill_one 6 (o := { dst := some 52, op := Op.call { callee := Callee.builtin Builtin.append, args := #[Operand.tmp 47, Operand.tmp 51], argTypes := #[23, 23] }, type := 23, pos := "tree.go:162", after := #[{ on := 1, ground := Ground.data }, { on := 5, ground := Ground.data }, { on := 4, ground := Ground.chain }], guard := none }) (by kernel_rfl) rfl ?_
        intro K' hK
        rw [if_pos (wanted_none rfl)]
        refine wp_append_lies _ (.tmp 47) (.tmp 51) 23 rfl W1.heap.size 25 i0 _ 6 80 Try.underlying23 hi0 hy0 hy1 hy2 rfl (by omega) _ j (cellsK cs) rfl HO3.out ⟨w2.heap.size, 0, none⟩ 1 1 (hcells y.h) rfl rfl HN3.out (hcells_one y.h) (by omega) (by unfold maxLen; omega) (by omega) (by simp; omega) (w2.heap.size + 1) (by simp) ?_
        intro g4 c4 w4 hown4 hgrow hat4 hlt4
        refine hK.out _ _ (fun h => absurd (show true = false from h) (by simp)) ?_
        clear hK K' hHeld
        try simp only [Act.put, List.setIfInBounds_toArray, List.set_cons_zero, List.set_cons_succ]
        have HO4 := Lib.hid hown4
        have HG4 : Hid ((w2.alloc (.cells #[.int .i64 y.h.k, .int .i64 y.h.m, .int .i64 y.h.f, .int .i64 y.h.t, .slice y.h.np y.h.nn y.h.nc, .slice y.h.kp y.h.kn y.h.kc] 25)).grownBy w4 (Value.slice p5 j c5).ownBlock) := Lib.hid hgrow
        have HAT : Hid ((Value.slice p5 j c5).ownBlock = some g4 ∨ g4 = w2.heap.size + 1) := Lib.hid hat4
        have hbx4 : w4.ownsRow bb 25 6 (.slice (some ⟨bb, 0, none⟩) 1 1) 1 [.int .i64 hd.k, .int .i64 hd.m, .int .i64 hd.f, .int .i64 hd.t, .slice pn hd.ns.length cn, .slice p5 j c5] := (row_step HBX.out (HB2.out.alloc hz2 _)).kept hgrow (Or.inr (by intro he; exact HNE.out he.symm))
        have c5f := own_frozen hbx4 5
        have c5c := own_cell hbx4 5 _ rfl
        have HBX4 := Lib.hid hbx4
        clear hown4 hgrow hat4 hbx4
        refine wpTill_one 7 (o := { dst := some 53, op := Op.fieldAddr 25 (Operand.tmp 6) 5, type := 0, pos := "tree.go:162", after := #[{ on := 0, ground := Ground.phase }, { on := 1, ground := Ground.phase }, { on := 2, ground := Ground.phase }, { on := 3, ground := Ground.phase }, { on := 4, ground := Ground.phase }, { on := 5, ground := Ground.phase }, { on := 6, ground := Ground.phase }], guard := none }) (by kernel_rfl) rfl ?_
        intro K' hK
        go_simp
        refine hK.out _ _ (fun h => absurd (show true = false from h) (by simp)) ?_
        clear hK K'
        try simp only [Act.put, List.setIfInBounds_toArray, List.set_cons_zero, List.set_cons_succ]
        refine wpTill_one 8 (o := { dst := none, op := Op.store 23 (Operand.tmp 53) (Operand.tmp 52), type := 0, pos := "tree.go:162", after := #[{ on := 7, ground := Ground.data }, { on := 6, ground := Ground.data }, { on := 6, ground := Ground.chain }, { on := 0, ground := Ground.phase }, { on := 1, ground := Ground.phase }, { on := 2, ground := Ground.phase }, { on := 3, ground := Ground.phase }, { on := 4, ground := Ground.phase }, { on := 5, ground := Ground.phase }, { on := 6, ground := Ground.phase }], guard := none }) (by kernel_rfl) rfl ?_
        intro K' hK
        go_simp
        refine hK.out _ _ (fun h => absurd (show true = false from h) (by simp)) ?_
        clear hK K'
        refine wpTill_done (by kernel_rfl) ?_ _
        try simp only [Act.put, List.setIfInBounds_toArray, List.set_cons_zero, List.set_cons_succ]
        have hvb : ∀ q, (Value.slice p5 j c5).ownBlock = some q → q < wr.heap.size := fun q hq => (HO.out.lt q hq).2
        have HCP5 := Lib.hid (copies_next (v4 := .slice (some ⟨g4, 0, none⟩) (j + 1) c4) (.slice (some ⟨g4, 0, none⟩) (j + 1) c4) 5 HCP.out HBS.out hvb hN1 HB2.out HG4.out HAT.out rfl HYL.out HYO.out HYF.out)
        obtain ⟨hin5, hfv5⟩ := names_next (v4 := .slice (some ⟨g4, 0, none⟩) (j + 1) c4) (.slice (some ⟨g4, 0, none⟩) (j + 1) c4) 5 HINr.out (fun q hq hn => (HFR2.out q hq hn).2) HFV.out HB2.out HG4.out HAT.out rfl
        have hb5 : Below W1.heap.size W1 (w4.setCell ⟨bb, 5, none⟩ (.slice (some ⟨g4, 0, none⟩) (j + 1) c4)) := (((HBE.out.trans (HB2.out.mono hN1)).alloc (by omega) _).grown HG4.out (by simp; omega) (own_below HO.out (Nat.le_refl _))).setCell hbb _
        have hbx5 := own_set HBX4.out 5 (.slice (some ⟨g4, 0, none⟩) (j + 1) c4) (by omega)
        have hne4 : g4 ≠ bb := by
          rcases HAT.out with h | h
          · intro e; exact HNE.out (by rw [h, e])
          · have := HBS.out; omega
        have ho5 : (w4.setCell ⟨bb, 5, none⟩ (.slice (some ⟨g4, 0, none⟩) (j + 1) c4)).ownsRow W1.heap.size 25 6 (.slice (some ⟨g4, 0, none⟩) (j + 1) c4) (j + 1) (cellsK (cs ++ [y])) := by
          have e : cellsK (cs ++ [y]) = cellsK cs ++ hcells y.h := by rw [cellsK_append]; simp [cellsK]
          rw [e]
          exact HO4.out.kept (row := some bb) ⟨rfl, rfl, rfl, by simp, fun k hk hne => Below.heap_setCell _ _ _ _ (fun e => hne (by rw [e]))⟩ (Or.inr (by simp [Value.ownBlock, hne4]))
        have hcs5 : (cs ++ [y]).length = j + 1 ∧ sames (cs ++ [y]) (ks.take (j + 1)) = true := by
          refine ⟨by simp [HCS.out.1], ?_⟩
          rw [HT.out, sames_append _ _ _ _ (by rw [HCS.out.1, List.length_take]; omega), HCS.out.2]
          simp [sames, HYS.out]
        have hbs5 : bb < (w4.setCell ⟨bb, 5, none⟩ (.slice (some ⟨g4, 0, none⟩) (j + 1) c4)).heap.size := by
          have := hb5.size
          have h1 := HBS.out
          have h2 := HG4.out.size
          simp at h2 ⊢
          omega
        have HIN5 := Lib.hid hin5
        have HFV5 := Lib.hid hfv5
        have HB5 := Lib.hid hb5
        have HBX5 := Lib.hid hbx5
        have HO5 := Lib.hid ho5
        have HCS5 := Lib.hid hcs5
        have HBS5 := Lib.hid hbs5
        generalize w4.setCell ⟨bb, 5, none⟩ (.slice (some ⟨g4, 0, none⟩) (j + 1) c4) = w5 at *
        have t5 := (HAW.out.step HB5.out).top
        have b6 := ((HAW.out.step HB5.out).next HY.out).2
        clear hvb hin5 hfv5 hb5 hbx5 ho5 hcs5 hbs5 cb5 c5f c5c
        go_wp2_with fail
        go_roundg (O.length - (j + 1))
        case measure => omega
        case rel => exact ⟨j + 1, yi, _, c4, cs ++ [y], by omega, rfl, HCH2, HCS5, HCP5, HO5, Lib.hid (by simp [Value.ownBlock, hne4]), HBX5, HIN5, HFV5, HBS5, HB5.out⟩
      · have hch := HCHr.out
        rw [List.drop_eq_nil_of_le (by omega)] at hch
        obtain rfl : x = -1 := hch
        have hjk : j = ks.length := by omega
        have hrbw := (hbe.block w.heap.size (by omega)).trans HRW.out
        have hrr := own_lit (base := w.heap.size) (n := 1) (size := 6) hrbw (Nat.le_refl _) rfl (by unfold maxLen; omega)
        have hrr' := own_set (own_set (own_set (own_set (own_set (own_set hrr 0 (.int .i64 hd.k) (by omega)) 1 (.int .i64 hd.m) (by omega)) 2 (.int .i64 hd.f) (by omega)) 3 (.int .i64 hd.t) (by omega)) 4 (.slice pn hd.ns.length cn) (by omega)) 5 (.slice p5 j c5) (by omega)
        obtain ⟨p6, c6, hv6, hkids⟩ := kids_of_own HO.out HCS.out.1.symm
        injection hv6 with h61 _ h63
        subst h61 h63
        have hkeep : ∀ q, q ≠ w.heap.size → ((((((wr.setCell ⟨w.heap.size, 0, none⟩ (.int .i64 hd.k)).setCell ⟨w.heap.size, 1, none⟩ (.int .i64 hd.m)).setCell ⟨w.heap.size, 2, none⟩ (.int .i64 hd.f)).setCell ⟨w.heap.size, 3, none⟩ (.int .i64 hd.t)).setCell ⟨w.heap.size, 4, none⟩ (.slice pn hd.ns.length cn)).setCell ⟨w.heap.size, 5, none⟩ (.slice p5 j c5)).heap[q]? = wr.heap[q]? := fun q hq => by
          rw [Below.heap_setCell _ _ _ _ hq, Below.heap_setCell _ _ _ _ hq, Below.heap_setCell _ _ _ _ hq, Below.heap_setCell _ _ _ _ hq, Below.heap_setCell _ _ _ _ hq, Below.heap_setCell _ _ _ _ hq]
        have hsame : ((((((wr.setCell ⟨w.heap.size, 0, none⟩ (.int .i64 hd.k)).setCell ⟨w.heap.size, 1, none⟩ (.int .i64 hd.m)).setCell ⟨w.heap.size, 2, none⟩ (.int .i64 hd.f)).setCell ⟨w.heap.size, 3, none⟩ (.int .i64 hd.t)).setCell ⟨w.heap.size, 4, none⟩ (.slice pn hd.ns.length cn)).setCell ⟨w.heap.size, 5, none⟩ (.slice p5 j c5)).heap.size = wr.heap.size := by simp
        have hbF := ((((((HBW.out.trans (hbe.mono (by omega))).setCell (p := ⟨w.heap.size, 0, none⟩) (Nat.le_refl _) (.int .i64 hd.k)).setCell (p := ⟨w.heap.size, 1, none⟩) (Nat.le_refl _) (.int .i64 hd.m)).setCell (p := ⟨w.heap.size, 2, none⟩) (Nat.le_refl _) (.int .i64 hd.f)).setCell (p := ⟨w.heap.size, 3, none⟩) (Nat.le_refl _) (.int .i64 hd.t)).setCell (p := ⟨w.heap.size, 4, none⟩) (Nat.le_refl _) (.slice pn hd.ns.length cn)).setCell (p := ⟨w.heap.size, 5, none⟩) (Nat.le_refl _) (.slice p5 j c5)
        have hres := branch_result hd ks cs pn cn p5 j c5 hjk HCS.out HINr.out (fun q hq hn => by have := (HFR2.out q hq hn).1; omega) hkids (fun q hq => by have := (HO.out.lt q hq).1; omega) (fun y hy => HCP.out y hy) (by omega : w.heap.size < W1.heap.size) (by omega : w.heap.size ≤ w.heap.size) hkeep (Nat.le_of_eq hsame.symm) HF2.out.1 hnn
        have hd0 := own_cell hrr' 0 _ rfl
        have hd1 := own_cell hrr' 1 _ rfl
        have hd2 := own_cell hrr' 2 _ rfl
        have hd3 := own_cell hrr' 3 _ rfl
        have hd4 := own_cell hrr' 4 _ rfl
        have hd5 := own_cell hrr' 5 _ rfl
        have HD := Lib.hid (And.intro hd0 (And.intro hd1 (And.intro hd2 (And.intro hd3 (And.intro hd4 hd5)))))
        have HRES := Lib.hid hres
        have HBF := Lib.hid hbF
        have c0 := ck 0 _ rfl
        have c1 := ck 1 _ rfl
        have c2 := ck 2 _ rfl
        have c3 := ck 3 _ rfl
        have c4 := ck 4 _ rfl
        have r0 := own_cell hrr 0 _ rfl
        have r1 := own_cell hrr 1 _ rfl
        have r2 := own_cell hrr 2 _ rfl
        have r3 := own_cell hrr 3 _ rfl
        have r4 := own_cell hrr 4 _ rfl
        have r5 := own_cell hrr 5 _ rfl
        have f0 := own_frozen hrr 0
        have f1 := own_frozen hrr 1
        have f2 := own_frozen hrr 2
        have f3 := own_frozen hrr 3
        have f4 := own_frozen hrr 4
        have f5 := own_frozen hrr 5
        clear hrbw hrr hrr' hkids hkeep hsame hbF hres hd0 hd1 hd2 hd3 hd4 hd5 ck hjk
        go_wp2_with fail
        obtain ⟨d0, d1, d2, d3, d4, d5⟩ := HD.out
        obtain ⟨hl, ho, hs, hf⟩ := HRES.out
        refine bodyPost_ret (by simp [results, Try.results20, go_sem, d0, d1, d2, d3, d4, d5, Result.andThen]; try rfl) rfl ?_
        exact ⟨_, rfl, hl, ho, hs, hf, HBF.out⟩
end Go.Proofs.Ytcijjeflojaocaa
