/-
  The reader's path.
-/
import Derived.Test.YtkjgkchdkeggoaaGreatDoorVal
import Derived.Test.YtkjgkchdkeggoaaGreatDoorSlots
import Derived.Deep.AppendLies
import Derived.Deep.LoopGhost
namespace Go.Proofs.YtkjgkchdkeggoaaGreatDoor
open Go.RowKit
set_option maxRecDepth 20000
set_option linter.unusedVariables false
set_option linter.unusedSimpArgs false

abbrev mkN (x : Nat) : Value := .int .i64 (x : Int)
/-- A row of numbers of the call's own. -/
def RL (w0 : World) : List Nat → Value → World → Prop := fun l v w' => w'.ownsRow w0.heap.size 3 1 v l.length (l.map mkN)
theorem RL.form {w0 : World} {l : List Nat} {v : Value} {w' : World} (h : RL w0 l v w') : ∃ p n c, v = .slice p n c := by
  rcases h.2 with ⟨rfl, _⟩ | ⟨g, c, cur, rfl, _⟩
  · exact ⟨none, 0, 0, rfl⟩
  · exact ⟨_, _, _, rfl⟩
theorem RL.step {w0 : World} {l : List Nat} {v : Value} {w w' : World} (h : RL w0 l v w) (hb : Below w.heap.size w w') : RL w0 l v w' := ownsRow_below h hb
theorem own_base {w : World} {base base' E size n : Nat} {v : Value} {xs : List Value} (h : w.ownsRow base E size v n xs) (hb : base' ≤ base) : w.ownsRow base' E size v n xs := by
  refine ⟨h.1, ?_⟩
  rcases h.2 with h0 | ⟨g, c, cur, hv, hg, r⟩
  · exact .inl h0
  · exact .inr ⟨g, c, cur, hv, Nat.le_trans hb hg, r⟩
theorem own_lit {w : World} {base g E size n : Nat} {cs : Array Value} (hg : w.heap[g]? = some (.cells cs E (0, 0))) (hb : base ≤ g) (hlen : cs.size = n * size) (hm : n ≤ maxLen) :
    w.ownsRow base E size (.slice (some ⟨g, 0, none⟩) n n) n cs.toList := by
  refine ⟨by simpa using hlen, .inr ⟨g, n, cs, rfl, hb, hg, Nat.le_refl _, hm, hlen, ?_⟩⟩
  rw [← hlen]; exact List.take_of_length_le (by simp)
theorem pathL_lt {S : Src} {ks : List Int} : ∀ {f : Nat} {acc p : List Nat} {n m : Nat}, S.pathL ks f acc n = .ok p m → n ≤ m := by
  intro f
  induction f with
  | zero => intro acc p n m h; cases h
  | succ f ih =>
    intro acc p n m h
    simp only [Src.pathL] at h
    cases hc : (S.kd (n - 1) == 7 && S.is n [46]) <;> rw [hc] at h
    · simp only [cond_false] at h
      injection h with _ h2
      omega
    · simp only [cond_true, Src.take] at h
      cases hk : ks.contains (S.kd (n + 1)) <;> rw [hk] at h
      · cases h
      · have := ih h
        omega
theorem path_lt {S : Src} {ks : List Int} {p : List Nat} {n m : Nat} (h : S.path ks n = .ok p m) : n + 1 ≤ m := by
  unfold Src.path Src.take at h
  cases hk : ks.contains (S.kd n) <;> rw [hk] at h
  · cases h
  · exact pathL_lt h
theorem Rd.grow {w w' : World} {S : Src} {n d : Nat} {r : Option Nat} (h : Rd w S n d) (hg : w.grownBy w' r) (h1 : r ≠ some S.g) (h2 : r ≠ some S.gw) : Rd w' S n d := by
  refine ⟨h.good, h.here, (hg.block _ h.lt (fun e => h1 e.symm)).trans h.box, Nat.lt_of_lt_of_le h.row hg.size, fun i hi => ?_, h.deep⟩
  obtain ⟨t0, t1, t2⟩ := h.toks i hi
  have far : ∀ o, w'.cell? ⟨S.gw, o, none⟩ = w.cell? ⟨S.gw, o, none⟩ := fun o => World.cell?_of_block (hg.block _ h.row (fun e => h2 e.symm))
  exact ⟨(far _).trans t0, (far _).trans t1, (far _).trans t2⟩
/-- What a row of the call's own that is appended to leaves of the rest. -/
theorem grown_own {w w1 w2 : World} {g : Nat} {r : Option Nat} (h : w.grownBy w1 (some g)) (hg : w1.grownBy w2 r) (hr : ∀ q, r = some q → w.heap.size ≤ q) : w.grownBy w2 (some g) :=
  ⟨hg.os.trans h.os, hg.tape.trans h.tape, hg.output.trans h.output, Nat.le_trans h.size hg.size, fun j hj hn => (hg.block j (Nat.lt_of_lt_of_le hj h.size) (fun e => by have := hr j e.symm; omega)).trans (h.block j hj hn)⟩

set_option maxHeartbeats 8000000 in
theorem rpath_any (S : Src) (n d : Nat) (ks : List Int) (b c : Nat) (w : World) (h : Rd w S n d) (hat : IntCells w b ks) (hb : b < w.heap.size) (hbg : b ≠ S.g) (hc : ks.length ≤ c) (hm : ks.length ≤ 1000) (hz : ks.contains 0 = false) (hdry : S.path ks n ≠ .dry) :
    Calls Tryz.prog 70 #[.pointer (some ⟨S.g, 0, none⟩), .slice (some ⟨b, 0, none⟩) ks.length c] w fun e w' => Ends S d w (S.path ks n) (RL w) e w' := by
  obtain ⟨i0, hi0, hy0, hy1, hy2⟩ := info_parts info3
  have HT := Lib.hid (fun m w' (hr : Rd w' S m d) (hg : w.grownBy w' (some S.g)) => rtake_any S m d ks b c w' hr (fun i hi => (World.cell?_of_block (hg.block b hb (fun e => hbg (Option.some.inj e)))).trans (hat i hi)) (Nat.lt_of_lt_of_le hb hg.size) hc hm hz)
  have HR := Lib.hid h
  have HDRY := Lib.hid hdry
  have hgl := h.lt
  have hgwl := h.row
  have hlen := h.good.len
  clear h hat hz hdry
  obtain ⟨tot, htot⟩ : ∃ tot, tot = S.path ks n := ⟨_, rfl⟩
  rw [← htot] at HDRY ⊢
  have HTOT := Lib.hid htot
  clear htot
  generalize ks.length = nl at *
  go_enter Tryz.func70, Tryz.ntmps70
  go_wp2_with fail
  refine (HT.out n w HR.out (grown_same _ _)).mono ?_
  rintro e w1 (⟨m, n1, v, hpo, rfl, hv, hr, hg⟩ | ⟨ch, ho, rfl, hg⟩)
  · obtain rfl : v = .int .i64 (m : Int) := hv
    have hn1 : n1 = n + 1 ∧ m = n := by
      unfold Src.take at hpo
      cases hk : ks.contains (S.kd n) <;> rw [hk] at hpo
      · cases hpo
      · simp only [cond_true, Out.ok.injEq] at hpo; omega
    obtain ⟨rfl, rfl⟩ := hn1
    have HL : Hid (tot = S.pathL ks S.ts.length [m] (m + 1)) := Lib.hid (by rw [HTOT.out]; unfold Src.path; rw [hpo]; rfl)
    have HR1 : Hid (Rd (w1.alloc (.cells #[.int .i64 (m : Int)] 3)) S (m + 1) d) := Lib.hid (hr.step ((Below.refl _ _).alloc (Nat.le_refl _) _))
    have HG1 : Hid (w.grownBy (w1.alloc (.cells #[.int .i64 (m : Int)] 3)) (some S.g)) := Lib.hid (grown_trans hg (grown_below ((Below.refl _ _).alloc (Nat.le_refl _) _) _))
    have HO1 : Hid ((w1.alloc (.cells #[.int .i64 (m : Int)] 3)).ownsRow w.heap.size 3 1 (.slice (some ⟨w1.heap.size, 0, none⟩) 1 1) 1 [mkN m]) := Lib.hid (own_lit (heap_alloc_new w1 _) hg.size rfl (by unfold maxLen; omega))
    clear hpo hr hg
    go_wp2_with fail
    go_loopg [5] S.ts.length (fun gk v5 wr => ∃ (acc : List Nat) (i1 : Nat) (p5 : Option Addr) (c5 : Nat), v5 = .slice p5 acc.length c5 ∧ acc.length + gk = S.ts.length + 1 ∧ Hid (tot = S.pathL ks gk acc (i1 + 1)) ∧ Hid (wr.ownsRow w.heap.size 3 1 (.slice p5 acc.length c5) acc.length (acc.map mkN)) ∧ Hid (Rd wr S (i1 + 1) d) ∧ w.grownBy wr (some S.g))
    case atStart => exact ⟨[m], m, _, _, rfl, by simp; omega, HL, HO1, HR1, HG1.out⟩
    case round =>
      obtain ⟨acc, i1, p5, c5, rfl, hal, HL2, HO, HRr, hgr⟩ := hrel
      have HGR := Lib.hid hgr
      have hzr := hgr.size
      have hl := HRr.out.here
      have hil : i1 < S.ts.length := by omega
      have HS : ∀ W, Below wr.heap.size wr W → W.cell? ⟨S.g, 1, none⟩ = some (.slice (some ⟨S.gw, 0, none⟩) S.ts.length S.cw) ∧ W.cell? ⟨S.g, 2, none⟩ = some (.int .i64 ((i1 + 1 : Nat) : Int)) ∧ W.cell? ⟨S.gw, i1 * 3, none⟩ = some (.int .i64 (S.kd i1)) := fun W hW => by
        have h1 := HRr.out.step hW
        exact ⟨h1.c1, h1.c2, by rw [S.kd_at hil]; exact (h1.toks i1 hil).1⟩
      have hi1 : ((i1 + 1 : Nat) : Int) - 1 = (i1 : Int) := by omega
      have hwr : IntKind.i64.wrap (i1 : Int) = (i1 : Int) := IntWalk.i64_in _ (by omega)
      have hx1 : (0 : Int) ≤ (i1 : Int) := by omega
      have hx2 : (i1 : Int) < (S.ts.length : Int) := by omega
      have hsub : i1 + 1 - 1 = i1 := by omega
      clear hgr
      cases gk with
      | zero => exact absurd HL2.out (by intro e; exact HDRY.out e)
      | succ gk =>
      have hLs := HL2.out
      simp only [Src.pathL, hsub] at hLs
      have HLS := Lib.hid hLs
      clear hLs HL2
      by_cases hkd : S.kd i1 = 7
      · have hkt : (S.kd i1 == 7) = true := by simp [hkd]
        have HPS := Lib.hid (fun W (hW : Below wr.heap.size wr W) => rpass_any S (i1 + 1) d ⟨#[46]⟩ W (HRr.out.step hW) (by simp))
        simp only at HPS
        cases hdot : S.is (i1 + 1) [46]
        · rw [hdot] at HPS
          have HEQ : Hid (tot = .ok acc (i1 + 1)) := Lib.hid (by rw [HLS.out, hkt, hdot]; rfl)
          go_wp2_with fail
          refine wp_region_till (fun W => Below wr.heap.size wr W) 15 (by kernel_rfl) ?_
          have hS : Below wr.heap.size wr wr.drew := (Below.refl wr.heap.size wr).drew
          refine start_fp (N := 34) [(0, .pointer (some ⟨S.g, 0, none⟩))] (Fs.of rfl rfl (by simp [Act.eval])) ?_
          intro a0 ha0 hF
          refine take_fp 0 [1, 2, 3, 9, 10, 11, 12, 13, 14, 15, 16] (oi := { dst := some 10, op := Op.move (Operand.tmp 0), type := 56, pos := "parse.go:103", after := #[], guard := none }) (d := 10) (v := .pointer (some ⟨S.g, 0, none⟩)) hF hS rfl rfl (by decide) (by kernel_rfl) (by kernel_rfl) (by kernel_rfl) (by kernel_rfl) (fun _ _ _ h => h) (fun a' hA => wanted_none rfl) (run_move_fs rfl rfl) ?_
          clear hF
          intro hF
          refine take_fp 1 [2, 3, 9, 10, 11, 12, 13, 14, 15, 16] (oi := { dst := some 11, op := Op.nilCheck (Operand.tmp 10), type := 0, pos := "parse.go:103", after := #[{ on := 0, ground := Ground.data }], guard := none }) (d := 11) (v := .pointer (some ⟨S.g, 0, none⟩)) hF hS rfl rfl (by decide) (by kernel_rfl) (by kernel_rfl) (by kernel_rfl) (by kernel_rfl) (fun _ _ _ h => h) (fun a' hA => wanted_none rfl) (fun a' hA w' hw => by have e10 := hA.get 10 rfl; have ec : ∀ v, a'.eval (.const v) = v := fun _ => rfl; clear hA; generalize a'.eval = ρ at *; simp [go_sem, ec, e10]; try rfl) ?_
          clear hF
          intro hF
          refine take_fp 2 [3, 9, 10, 11, 12, 13, 14, 15, 16] (oi := { dst := some 12, op := Op.fieldAddr 66 (Operand.tmp 11) 1, type := 0, pos := "parse.go:103", after := #[{ on := 1, ground := Ground.data }], guard := none }) (d := 12) (v := .pointer (some ⟨S.g, 1, none⟩)) hF hS rfl rfl (by decide) (by kernel_rfl) (by kernel_rfl) (by kernel_rfl) (by kernel_rfl) (fun _ _ _ h => h) (fun a' hA => wanted_none rfl) (fun a' hA w' hw => by have e11 := hA.get 11 rfl; have ec : ∀ v, a'.eval (.const v) = v := fun _ => rfl; clear hA; generalize a'.eval = ρ at *; simp [go_sem, ec, e11]; try rfl) ?_
          clear hF
          intro hF
          refine take_fp 3 [9, 10, 11, 12, 13, 14, 15, 16] (oi := { dst := some 13, op := Op.load 32 (Operand.tmp 12), type := 32, pos := "parse.go:103", after := #[{ on := 2, ground := Ground.data }], guard := none }) (d := 13) (v := .slice (some ⟨S.gw, 0, none⟩) S.ts.length S.cw) hF hS rfl rfl (by decide) (by kernel_rfl) (by kernel_rfl) (by kernel_rfl) (by kernel_rfl) (fun _ _ _ h => h) (fun a' hA => wanted_none rfl) (fun a' hA w' hw => by have e12 := hA.get 12 rfl; have ec : ∀ v, a'.eval (.const v) = v := fun _ => rfl; obtain ⟨q1, q2, q3⟩ := HS _ hw; clear hA; generalize a'.eval = ρ at *; simp [go_sem, ec, e12, q1]; try rfl) ?_
          clear hF
          intro hF
          refine take_fp 4 [5, 6, 7, 8, 9, 10, 11, 12, 13, 14, 15, 16] (oi := { dst := some 14, op := Op.move (Operand.tmp 0), type := 56, pos := "parse.go:103", after := #[], guard := none }) (d := 14) (v := .pointer (some ⟨S.g, 0, none⟩)) hF hS rfl rfl (by decide) (by kernel_rfl) (by kernel_rfl) (by kernel_rfl) (by kernel_rfl) (fun _ _ _ h => h) (fun a' hA => wanted_none rfl) (run_move_fs rfl rfl) ?_
          clear hF
          intro hF
          refine take_fp 5 [6, 7, 8, 9, 10, 11, 12, 13, 14, 15, 16] (oi := { dst := some 15, op := Op.nilCheck (Operand.tmp 14), type := 0, pos := "parse.go:103", after := #[{ on := 4, ground := Ground.data }], guard := none }) (d := 15) (v := .pointer (some ⟨S.g, 0, none⟩)) hF hS rfl rfl (by decide) (by kernel_rfl) (by kernel_rfl) (by kernel_rfl) (by kernel_rfl) (fun _ _ _ h => h) (fun a' hA => wanted_none rfl) (fun a' hA w' hw => by have e14 := hA.get 14 rfl; have ec : ∀ v, a'.eval (.const v) = v := fun _ => rfl; clear hA; generalize a'.eval = ρ at *; simp [go_sem, ec, e14]; try rfl) ?_
          clear hF
          intro hF
          refine take_fp 6 [7, 8, 9, 10, 11, 12, 13, 14, 15, 16] (oi := { dst := some 16, op := Op.fieldAddr 66 (Operand.tmp 15) 2, type := 0, pos := "parse.go:103", after := #[{ on := 5, ground := Ground.data }], guard := none }) (d := 16) (v := .pointer (some ⟨S.g, 2, none⟩)) hF hS rfl rfl (by decide) (by kernel_rfl) (by kernel_rfl) (by kernel_rfl) (by kernel_rfl) (fun _ _ _ h => h) (fun a' hA => wanted_none rfl) (fun a' hA w' hw => by have e15 := hA.get 15 rfl; have ec : ∀ v, a'.eval (.const v) = v := fun _ => rfl; clear hA; generalize a'.eval = ρ at *; simp [go_sem, ec, e15]; try rfl) ?_
          clear hF
          intro hF
          refine take_fp 7 [8, 9, 10, 11, 12, 13, 14, 15, 16] (oi := { dst := some 17, op := Op.load 3 (Operand.tmp 16), type := 3, pos := "parse.go:103", after := #[{ on := 6, ground := Ground.data }], guard := none }) (d := 17) (v := .int .i64 ((i1 + 1 : Nat) : Int)) hF hS rfl rfl (by decide) (by kernel_rfl) (by kernel_rfl) (by kernel_rfl) (by kernel_rfl) (fun _ _ _ h => h) (fun a' hA => wanted_none rfl) (fun a' hA w' hw => by have e16 := hA.get 16 rfl; have ec : ∀ v, a'.eval (.const v) = v := fun _ => rfl; obtain ⟨q1, q2, q3⟩ := HS _ hw; clear hA; generalize a'.eval = ρ at *; simp [go_sem, ec, e16, q2]; try rfl) ?_
          clear hF
          intro hF
          refine take_fp 8 [9, 10, 11, 12, 13, 14, 15, 16] (oi := { dst := some 18, op := Op.binOp BinOp.sub 3 (Operand.tmp 17) (Operand.const (Value.int IntKind.i64 1)) 3, type := 3, pos := "parse.go:103", after := #[{ on := 7, ground := Ground.data }], guard := none }) (d := 18) (v := .int .i64 (i1 : Int)) hF hS rfl rfl (by decide) (by kernel_rfl) (by kernel_rfl) (by kernel_rfl) (by kernel_rfl) (fun _ _ _ h => h) (fun a' hA => wanted_none rfl) (fun a' hA w' hw => by have e17 := hA.get 17 rfl; have ec : ∀ v, a'.eval (.const v) = v := fun _ => rfl; clear hA; generalize a'.eval = ρ at *; simp [go_sem, ec, e17, hi1, hwr]; try rfl) ?_
          clear hF
          intro hF
          refine take_fp 9 [10, 11, 12, 13, 14, 15, 16] (oi := { dst := some 19, op := Op.indexAddr 32 (Operand.tmp 13) (Operand.tmp 18), type := 0, pos := "parse.go:103", after := #[{ on := 3, ground := Ground.data }, { on := 8, ground := Ground.data }], guard := none }) (d := 19) (v := .pointer (some ⟨S.gw, i1 * 3, none⟩)) hF hS rfl rfl (by decide) (by kernel_rfl) (by kernel_rfl) (by kernel_rfl) (by kernel_rfl) (fun _ _ _ h => h) (fun a' hA => wanted_none rfl) (fun a' hA w' hw => by have e13 := hA.get 13 rfl; have e18 := hA.get 18 rfl; have ec : ∀ v, a'.eval (.const v) = v := fun _ => rfl; clear hA; generalize a'.eval = ρ at *; simp [go_sem, ec, e13, e18, hx1, hx2]; try rfl) ?_
          clear hF
          intro hF
          refine take_fp 10 [11, 12, 13, 14, 15, 16] (oi := { dst := some 20, op := Op.fieldAddr 39 (Operand.tmp 19) 0, type := 0, pos := "parse.go:103", after := #[{ on := 9, ground := Ground.data }], guard := none }) (d := 20) (v := .pointer (some ⟨S.gw, i1 * 3, none⟩)) hF hS rfl rfl (by decide) (by kernel_rfl) (by kernel_rfl) (by kernel_rfl) (by kernel_rfl) (fun _ _ _ h => h) (fun a' hA => wanted_none rfl) (fun a' hA w' hw => by have e19 := hA.get 19 rfl; have ec : ∀ v, a'.eval (.const v) = v := fun _ => rfl; clear hA; generalize a'.eval = ρ at *; simp [go_sem, ec, e19]; try rfl) ?_
          clear hF
          intro hF
          refine take_fp 11 [12, 13, 14, 15, 16] (oi := { dst := some 21, op := Op.load 3 (Operand.tmp 20), type := 3, pos := "parse.go:103", after := #[{ on := 10, ground := Ground.data }], guard := none }) (d := 21) (v := .int .i64 (S.kd i1)) hF hS rfl rfl (by decide) (by kernel_rfl) (by kernel_rfl) (by kernel_rfl) (by kernel_rfl) (fun _ _ _ h => h) (fun a' hA => wanted_none rfl) (fun a' hA w' hw => by have e20 := hA.get 20 rfl; have ec : ∀ v, a'.eval (.const v) = v := fun _ => rfl; obtain ⟨q1, q2, q3⟩ := HS _ hw; clear hA; generalize a'.eval = ρ at *; simp [go_sem, ec, e20, q3]; try rfl) ?_
          clear hF
          intro hF
          refine take_fp 12 [13, 14, 15, 16] (oi := { dst := some 22, op := Op.binOp BinOp.eql 3 (Operand.tmp 21) (Operand.const (Value.int IntKind.i64 7)) 3, type := 4, pos := "parse.go:103", after := #[{ on := 11, ground := Ground.data }], guard := none }) (d := 22) (v := .bool true) hF hS rfl rfl (by decide) (by kernel_rfl) (by kernel_rfl) (by kernel_rfl) (by kernel_rfl) (fun _ _ _ h => h) (fun a' hA => wanted_none rfl) (fun a' hA w' hw => by have e21 := hA.get 21 rfl; have ec : ∀ v, a'.eval (.const v) = v := fun _ => rfl; clear hA; generalize a'.eval = ρ at *; simp [go_sem, ec, e21, hkd]; try rfl) ?_
          clear hF
          intro hF
          refine take_fp 13 [14, 15, 16] (oi := { dst := some 23, op := Op.move (Operand.tmp 22), type := 4, pos := "parse.go:103", after := #[{ on := 12, ground := Ground.data }], guard := none }) (d := 23) (v := .bool true) hF hS rfl rfl (by decide) (by kernel_rfl) (by kernel_rfl) (by kernel_rfl) (by kernel_rfl) (fun _ _ _ h => h) (fun a' hA => wanted_none rfl) (run_move_fs rfl rfl) ?_
          clear hF
          intro hF
          refine take_fp 14 [15, 16] (oi := { dst := some 24, op := Op.move (Operand.tmp 0), type := 56, pos := "parse.go:103", after := #[{ on := 13, ground := Ground.guard }], guard := some (13, true) }) (d := 24) (v := .pointer (some ⟨S.g, 0, none⟩)) hF hS rfl rfl (by decide) (by kernel_rfl) (by kernel_rfl) (by kernel_rfl) (by kernel_rfl) (fun _ _ _ h => h) (fun a' hA => hA.wantedB (j := 13) (dj := 23) (b := true) rfl (by kernel_rfl) (by decide) rfl) (run_move_fs rfl rfl) ?_
          clear hF
          intro hF
          refine call_fp 15 (oi := { dst := some 25, op := Op.call { callee := Callee.value (Operand.func 46), args := #[Operand.tmp 24, Operand.const (Value.string { data := #[46] })], argTypes := #[56, 9] }, type := 4, pos := "parse.go:103", after := #[{ on := 14, ground := Ground.data }, { on := 13, ground := Ground.chain }, { on := 13, ground := Ground.guard }], guard := some (13, true) }) (d := 25) (R := fun e w' => e = .returned (.bool false) ∧ Rd w' S (i1 + 1) d ∧ wr.drew.grownBy w' (some S.g)) hF rfl rfl (by decide) (by kernel_rfl) (fun a' hA => hA.wantedB (j := 13) (dj := 23) (b := true) rfl (by kernel_rfl) (by decide) rfl) (fun a' hA => by have e24 := hA.get 24 rfl; have ef : ∀ f, a'.eval (.func f) = .func (.func f) #[] #[] := fun _ => rfl; have ec : ∀ v, a'.eval (.const v) = v := fun _ => rfl; clear hA; generalize a'.eval = ρ at *; simp [go_sem, ef, ec, e24]) (HPS.out _ hS) (by rintro w' ⟨h, _⟩; cases h) ?_ ?_
          · rintro ch w' ⟨h, _⟩
            cases h
          rintro v w3 ⟨h, hr3, hg3⟩
          injection h with h
          subst h
          have HR3 := Lib.hid hr3
          have HG3 : Hid (wr.grownBy w3 (some S.g)) := Lib.hid (grown_trans (grown_below hS _) hg3)
          clear hr3 hg3
          refine ⟨fun h => absurd h (by decide), ?_⟩
          clear hF
          intro hF
          refine one_fp 16 (oi := { dst := some 26, op := Op.pick (Operand.tmp 23) (Operand.tmp 25) (Operand.const (Value.bool false)), type := 4, pos := "parse.go:103", after := #[{ on := 13, ground := Ground.data }, { on := 15, ground := Ground.data }], guard := none }) (d := 26) (v := .bool false) hF rfl rfl (by decide) (by kernel_rfl) (by kernel_rfl) (fun a' hA => wanted_none rfl) (fun a' hA => by have e23 := hA.get 23 rfl; have e25 := hA.get 25 rfl; have ec : ∀ v, a'.eval (.const v) = v := fun _ => rfl; clear hA; generalize a'.eval = ρ at *; simp [go_sem, ec, e23, e25]; try rfl) ?_
          clear hF
          intro hF
          refine wpTill_done (by kernel_rfl) ?_ _
          subst ha0
          simp only [Act.put, List.setIfInBounds_toArray, List.set_cons_zero, List.set_cons_succ]
          clear hF
          have HO3 := Lib.hid (HO.out.kept HG3.out (Or.inr (fun e => by have := (HO.out.lt _ e).1; omega)))
          go_wp2_with fail
          go_ret
          exact Or.inl ⟨acc, i1 + 1, _, HEQ.out, rfl, HO3.out, HR3.out, grown_trans HGR.out HG3.out⟩
        · rw [hdot] at HPS
          have HEQ : Hid (tot = (S.take ks (i1 + 1 + 1)).bind fun m n' => S.pathL ks gk (acc ++ [m]) n') := Lib.hid (by rw [HLS.out, hkt, hdot]; rfl)
          go_wp2_with fail
          refine wp_region_till (fun W => Below wr.heap.size wr W) 15 (by kernel_rfl) ?_
          have hS : Below wr.heap.size wr wr.drew := (Below.refl wr.heap.size wr).drew
          refine start_fp (N := 34) [(0, .pointer (some ⟨S.g, 0, none⟩))] (Fs.of rfl rfl (by simp [Act.eval])) ?_
          intro a0 ha0 hF
          refine take_fp 0 [1, 2, 3, 9, 10, 11, 12, 13, 14, 15, 16] (oi := { dst := some 10, op := Op.move (Operand.tmp 0), type := 56, pos := "parse.go:103", after := #[], guard := none }) (d := 10) (v := .pointer (some ⟨S.g, 0, none⟩)) hF hS rfl rfl (by decide) (by kernel_rfl) (by kernel_rfl) (by kernel_rfl) (by kernel_rfl) (fun _ _ _ h => h) (fun a' hA => wanted_none rfl) (run_move_fs rfl rfl) ?_
          clear hF
          intro hF
          refine take_fp 1 [2, 3, 9, 10, 11, 12, 13, 14, 15, 16] (oi := { dst := some 11, op := Op.nilCheck (Operand.tmp 10), type := 0, pos := "parse.go:103", after := #[{ on := 0, ground := Ground.data }], guard := none }) (d := 11) (v := .pointer (some ⟨S.g, 0, none⟩)) hF hS rfl rfl (by decide) (by kernel_rfl) (by kernel_rfl) (by kernel_rfl) (by kernel_rfl) (fun _ _ _ h => h) (fun a' hA => wanted_none rfl) (fun a' hA w' hw => by have e10 := hA.get 10 rfl; have ec : ∀ v, a'.eval (.const v) = v := fun _ => rfl; clear hA; generalize a'.eval = ρ at *; simp [go_sem, ec, e10]; try rfl) ?_
          clear hF
          intro hF
          refine take_fp 2 [3, 9, 10, 11, 12, 13, 14, 15, 16] (oi := { dst := some 12, op := Op.fieldAddr 66 (Operand.tmp 11) 1, type := 0, pos := "parse.go:103", after := #[{ on := 1, ground := Ground.data }], guard := none }) (d := 12) (v := .pointer (some ⟨S.g, 1, none⟩)) hF hS rfl rfl (by decide) (by kernel_rfl) (by kernel_rfl) (by kernel_rfl) (by kernel_rfl) (fun _ _ _ h => h) (fun a' hA => wanted_none rfl) (fun a' hA w' hw => by have e11 := hA.get 11 rfl; have ec : ∀ v, a'.eval (.const v) = v := fun _ => rfl; clear hA; generalize a'.eval = ρ at *; simp [go_sem, ec, e11]; try rfl) ?_
          clear hF
          intro hF
          refine take_fp 3 [9, 10, 11, 12, 13, 14, 15, 16] (oi := { dst := some 13, op := Op.load 32 (Operand.tmp 12), type := 32, pos := "parse.go:103", after := #[{ on := 2, ground := Ground.data }], guard := none }) (d := 13) (v := .slice (some ⟨S.gw, 0, none⟩) S.ts.length S.cw) hF hS rfl rfl (by decide) (by kernel_rfl) (by kernel_rfl) (by kernel_rfl) (by kernel_rfl) (fun _ _ _ h => h) (fun a' hA => wanted_none rfl) (fun a' hA w' hw => by have e12 := hA.get 12 rfl; have ec : ∀ v, a'.eval (.const v) = v := fun _ => rfl; obtain ⟨q1, q2, q3⟩ := HS _ hw; clear hA; generalize a'.eval = ρ at *; simp [go_sem, ec, e12, q1]; try rfl) ?_
          clear hF
          intro hF
          refine take_fp 4 [5, 6, 7, 8, 9, 10, 11, 12, 13, 14, 15, 16] (oi := { dst := some 14, op := Op.move (Operand.tmp 0), type := 56, pos := "parse.go:103", after := #[], guard := none }) (d := 14) (v := .pointer (some ⟨S.g, 0, none⟩)) hF hS rfl rfl (by decide) (by kernel_rfl) (by kernel_rfl) (by kernel_rfl) (by kernel_rfl) (fun _ _ _ h => h) (fun a' hA => wanted_none rfl) (run_move_fs rfl rfl) ?_
          clear hF
          intro hF
          refine take_fp 5 [6, 7, 8, 9, 10, 11, 12, 13, 14, 15, 16] (oi := { dst := some 15, op := Op.nilCheck (Operand.tmp 14), type := 0, pos := "parse.go:103", after := #[{ on := 4, ground := Ground.data }], guard := none }) (d := 15) (v := .pointer (some ⟨S.g, 0, none⟩)) hF hS rfl rfl (by decide) (by kernel_rfl) (by kernel_rfl) (by kernel_rfl) (by kernel_rfl) (fun _ _ _ h => h) (fun a' hA => wanted_none rfl) (fun a' hA w' hw => by have e14 := hA.get 14 rfl; have ec : ∀ v, a'.eval (.const v) = v := fun _ => rfl; clear hA; generalize a'.eval = ρ at *; simp [go_sem, ec, e14]; try rfl) ?_
          clear hF
          intro hF
          refine take_fp 6 [7, 8, 9, 10, 11, 12, 13, 14, 15, 16] (oi := { dst := some 16, op := Op.fieldAddr 66 (Operand.tmp 15) 2, type := 0, pos := "parse.go:103", after := #[{ on := 5, ground := Ground.data }], guard := none }) (d := 16) (v := .pointer (some ⟨S.g, 2, none⟩)) hF hS rfl rfl (by decide) (by kernel_rfl) (by kernel_rfl) (by kernel_rfl) (by kernel_rfl) (fun _ _ _ h => h) (fun a' hA => wanted_none rfl) (fun a' hA w' hw => by have e15 := hA.get 15 rfl; have ec : ∀ v, a'.eval (.const v) = v := fun _ => rfl; clear hA; generalize a'.eval = ρ at *; simp [go_sem, ec, e15]; try rfl) ?_
          clear hF
          intro hF
          refine take_fp 7 [8, 9, 10, 11, 12, 13, 14, 15, 16] (oi := { dst := some 17, op := Op.load 3 (Operand.tmp 16), type := 3, pos := "parse.go:103", after := #[{ on := 6, ground := Ground.data }], guard := none }) (d := 17) (v := .int .i64 ((i1 + 1 : Nat) : Int)) hF hS rfl rfl (by decide) (by kernel_rfl) (by kernel_rfl) (by kernel_rfl) (by kernel_rfl) (fun _ _ _ h => h) (fun a' hA => wanted_none rfl) (fun a' hA w' hw => by have e16 := hA.get 16 rfl; have ec : ∀ v, a'.eval (.const v) = v := fun _ => rfl; obtain ⟨q1, q2, q3⟩ := HS _ hw; clear hA; generalize a'.eval = ρ at *; simp [go_sem, ec, e16, q2]; try rfl) ?_
          clear hF
          intro hF
          refine take_fp 8 [9, 10, 11, 12, 13, 14, 15, 16] (oi := { dst := some 18, op := Op.binOp BinOp.sub 3 (Operand.tmp 17) (Operand.const (Value.int IntKind.i64 1)) 3, type := 3, pos := "parse.go:103", after := #[{ on := 7, ground := Ground.data }], guard := none }) (d := 18) (v := .int .i64 (i1 : Int)) hF hS rfl rfl (by decide) (by kernel_rfl) (by kernel_rfl) (by kernel_rfl) (by kernel_rfl) (fun _ _ _ h => h) (fun a' hA => wanted_none rfl) (fun a' hA w' hw => by have e17 := hA.get 17 rfl; have ec : ∀ v, a'.eval (.const v) = v := fun _ => rfl; clear hA; generalize a'.eval = ρ at *; simp [go_sem, ec, e17, hi1, hwr]; try rfl) ?_
          clear hF
          intro hF
          refine take_fp 9 [10, 11, 12, 13, 14, 15, 16] (oi := { dst := some 19, op := Op.indexAddr 32 (Operand.tmp 13) (Operand.tmp 18), type := 0, pos := "parse.go:103", after := #[{ on := 3, ground := Ground.data }, { on := 8, ground := Ground.data }], guard := none }) (d := 19) (v := .pointer (some ⟨S.gw, i1 * 3, none⟩)) hF hS rfl rfl (by decide) (by kernel_rfl) (by kernel_rfl) (by kernel_rfl) (by kernel_rfl) (fun _ _ _ h => h) (fun a' hA => wanted_none rfl) (fun a' hA w' hw => by have e13 := hA.get 13 rfl; have e18 := hA.get 18 rfl; have ec : ∀ v, a'.eval (.const v) = v := fun _ => rfl; clear hA; generalize a'.eval = ρ at *; simp [go_sem, ec, e13, e18, hx1, hx2]; try rfl) ?_
          clear hF
          intro hF
          refine take_fp 10 [11, 12, 13, 14, 15, 16] (oi := { dst := some 20, op := Op.fieldAddr 39 (Operand.tmp 19) 0, type := 0, pos := "parse.go:103", after := #[{ on := 9, ground := Ground.data }], guard := none }) (d := 20) (v := .pointer (some ⟨S.gw, i1 * 3, none⟩)) hF hS rfl rfl (by decide) (by kernel_rfl) (by kernel_rfl) (by kernel_rfl) (by kernel_rfl) (fun _ _ _ h => h) (fun a' hA => wanted_none rfl) (fun a' hA w' hw => by have e19 := hA.get 19 rfl; have ec : ∀ v, a'.eval (.const v) = v := fun _ => rfl; clear hA; generalize a'.eval = ρ at *; simp [go_sem, ec, e19]; try rfl) ?_
          clear hF
          intro hF
          refine take_fp 11 [12, 13, 14, 15, 16] (oi := { dst := some 21, op := Op.load 3 (Operand.tmp 20), type := 3, pos := "parse.go:103", after := #[{ on := 10, ground := Ground.data }], guard := none }) (d := 21) (v := .int .i64 (S.kd i1)) hF hS rfl rfl (by decide) (by kernel_rfl) (by kernel_rfl) (by kernel_rfl) (by kernel_rfl) (fun _ _ _ h => h) (fun a' hA => wanted_none rfl) (fun a' hA w' hw => by have e20 := hA.get 20 rfl; have ec : ∀ v, a'.eval (.const v) = v := fun _ => rfl; obtain ⟨q1, q2, q3⟩ := HS _ hw; clear hA; generalize a'.eval = ρ at *; simp [go_sem, ec, e20, q3]; try rfl) ?_
          clear hF
          intro hF
          refine take_fp 12 [13, 14, 15, 16] (oi := { dst := some 22, op := Op.binOp BinOp.eql 3 (Operand.tmp 21) (Operand.const (Value.int IntKind.i64 7)) 3, type := 4, pos := "parse.go:103", after := #[{ on := 11, ground := Ground.data }], guard := none }) (d := 22) (v := .bool true) hF hS rfl rfl (by decide) (by kernel_rfl) (by kernel_rfl) (by kernel_rfl) (by kernel_rfl) (fun _ _ _ h => h) (fun a' hA => wanted_none rfl) (fun a' hA w' hw => by have e21 := hA.get 21 rfl; have ec : ∀ v, a'.eval (.const v) = v := fun _ => rfl; clear hA; generalize a'.eval = ρ at *; simp [go_sem, ec, e21, hkd]; try rfl) ?_
          clear hF
          intro hF
          refine take_fp 13 [14, 15, 16] (oi := { dst := some 23, op := Op.move (Operand.tmp 22), type := 4, pos := "parse.go:103", after := #[{ on := 12, ground := Ground.data }], guard := none }) (d := 23) (v := .bool true) hF hS rfl rfl (by decide) (by kernel_rfl) (by kernel_rfl) (by kernel_rfl) (by kernel_rfl) (fun _ _ _ h => h) (fun a' hA => wanted_none rfl) (run_move_fs rfl rfl) ?_
          clear hF
          intro hF
          refine take_fp 14 [15, 16] (oi := { dst := some 24, op := Op.move (Operand.tmp 0), type := 56, pos := "parse.go:103", after := #[{ on := 13, ground := Ground.guard }], guard := some (13, true) }) (d := 24) (v := .pointer (some ⟨S.g, 0, none⟩)) hF hS rfl rfl (by decide) (by kernel_rfl) (by kernel_rfl) (by kernel_rfl) (by kernel_rfl) (fun _ _ _ h => h) (fun a' hA => hA.wantedB (j := 13) (dj := 23) (b := true) rfl (by kernel_rfl) (by decide) rfl) (run_move_fs rfl rfl) ?_
          clear hF
          intro hF
          refine call_fp 15 (oi := { dst := some 25, op := Op.call { callee := Callee.value (Operand.func 46), args := #[Operand.tmp 24, Operand.const (Value.string { data := #[46] })], argTypes := #[56, 9] }, type := 4, pos := "parse.go:103", after := #[{ on := 14, ground := Ground.data }, { on := 13, ground := Ground.chain }, { on := 13, ground := Ground.guard }], guard := some (13, true) }) (d := 25) (R := fun e w' => e = .returned (.bool true) ∧ Rd w' S (i1 + 1 + 1) d ∧ wr.drew.grownBy w' (some S.g)) hF rfl rfl (by decide) (by kernel_rfl) (fun a' hA => hA.wantedB (j := 13) (dj := 23) (b := true) rfl (by kernel_rfl) (by decide) rfl) (fun a' hA => by have e24 := hA.get 24 rfl; have ef : ∀ f, a'.eval (.func f) = .func (.func f) #[] #[] := fun _ => rfl; have ec : ∀ v, a'.eval (.const v) = v := fun _ => rfl; clear hA; generalize a'.eval = ρ at *; simp [go_sem, ef, ec, e24]) (HPS.out _ hS) (by rintro w' ⟨h, _⟩; cases h) ?_ ?_
          · rintro ch w' ⟨h, _⟩
            cases h
          rintro v w3 ⟨h, hr3, hg3⟩
          injection h with h
          subst h
          have HR3 := Lib.hid hr3
          have HG3 : Hid (wr.grownBy w3 (some S.g)) := Lib.hid (grown_trans (grown_below hS _) hg3)
          clear hr3 hg3
          refine ⟨fun h => absurd h (by decide), ?_⟩
          clear hF
          intro hF
          refine one_fp 16 (oi := { dst := some 26, op := Op.pick (Operand.tmp 23) (Operand.tmp 25) (Operand.const (Value.bool false)), type := 4, pos := "parse.go:103", after := #[{ on := 13, ground := Ground.data }, { on := 15, ground := Ground.data }], guard := none }) (d := 26) (v := .bool true) hF rfl rfl (by decide) (by kernel_rfl) (by kernel_rfl) (fun a' hA => wanted_none rfl) (fun a' hA => by have e23 := hA.get 23 rfl; have e25 := hA.get 25 rfl; have ec : ∀ v, a'.eval (.const v) = v := fun _ => rfl; clear hA; generalize a'.eval = ρ at *; simp [go_sem, ec, e23, e25]; try rfl) ?_
          clear hF
          intro hF
          refine wpTill_done (by kernel_rfl) ?_ _
          subst ha0
          simp only [Act.put, List.setIfInBounds_toArray, List.set_cons_zero, List.set_cons_succ]
          clear hF
          have HO3 := Lib.hid (HO.out.kept HG3.out (Or.inr (fun e => by have := (HO.out.lt _ e).1; omega)))
          have HGT := Lib.hid (grown_trans HGR.out HG3.out)
          have HX := Lib.hid (HT.out (i1 + 1 + 1) w3 HR3.out HGT.out)
          clear HG3
          go_wp2_with fail
          refine HX.out.mono ?_
          rintro e w4 (⟨m2, n2, v2, hpo2, rfl, hv2, hr2, hg2⟩ | ⟨ch, ho, rfl, hg2⟩)
          · obtain rfl : v2 = .int .i64 (m2 : Int) := hv2
            have hn2 : n2 = i1 + 1 + 1 + 1 := by
              unfold Src.take at hpo2
              cases hk : ks.contains (S.kd (i1 + 1 + 1)) <;> rw [hk] at hpo2
              · cases hpo2
              · simp only [cond_true, Out.ok.injEq] at hpo2; omega
            subst hn2
            have HL3 : Hid (tot = S.pathL ks gk (acc ++ [m2]) (i1 + 1 + 1 + 1)) := Lib.hid (by rw [HEQ.out, hpo2]; rfl)
            have hO4 := HO3.out.kept hg2 (Or.inr (fun e => by have := (HO3.out.lt _ e).1; omega))
            have hO5 : (w4.alloc (.cells #[.int .i64 (m2 : Int)] 3)).ownsRow w.heap.size 3 1 (.slice p5 acc.length c5) acc.length (acc.map mkN) := ownsRow_below hO4 ((Below.refl _ _).alloc (Nat.le_refl _) _)
            have HO5 := Lib.hid hO5
            have HR5 : Hid (Rd (w4.alloc (.cells #[.int .i64 (m2 : Int)] 3)) S (i1 + 1 + 1 + 1) d) := Lib.hid (hr2.step ((Below.refl _ _).alloc (Nat.le_refl _) _))
            have HG5 : Hid (w.grownBy (w4.alloc (.cells #[.int .i64 (m2 : Int)] 3)) (some S.g)) := Lib.hid (grown_trans (grown_trans HGT.out hg2) (grown_below ((Below.refl _ _).alloc (Nat.le_refl _) _) _))
            have HN5 := Lib.hid (World.news_of_block (heap_alloc_new w4 (.cells #[.int .i64 (m2 : Int)] 3)))
            have HLT := Lib.hid (fun q hq => (HO5.out.lt q hq).1)
            have hz4 : w.heap.size ≤ w4.heap.size := by have := HG5.out.size; have h2 := (grown_trans HGT.out hg2).size; exact h2
            clear hpo2 hr2 hg2 hO4 hO5
            generalize hacl : acc.length = al at *
            have HACL := Lib.hid hacl
            clear hacl
            go_wp2_with (at_builtin; refine wpList_append_own _ rfl _ _ 23 rfl w.heap.size 3 i0 _ 1 8 Tryz.underlying23 hi0 hy0 hy1 hy2 rfl (by omega) _ al _ rfl HO5.out ⟨w4.heap.size, 0, none⟩ 1 1 [.int .i64 (m2 : Int)] rfl rfl HN5.out (by simp [Value.oneCell']) (by unfold maxLen; omega) (by omega) (by simp; omega) ?_)
            intro v6 w6 hown6 hgrow6 _
            have hform : ∃ p c, v6 = .slice p (al + 1) c := by
              rcases hown6.2 with ⟨_, h0⟩ | ⟨g, c, cur, hv, _⟩
              · omega
              · exact ⟨_, c, hv⟩
            obtain ⟨p6, c6, rfl⟩ := hform
            have hall : (acc ++ [m2]).length = al + 1 := by simp [HACL.out]
            have hO6 : w6.ownsRow w.heap.size 3 1 (.slice p6 (acc ++ [m2]).length c6) (acc ++ [m2]).length ((acc ++ [m2]).map mkN) := by
              rw [hall, List.map_append]; exact hown6
            have HO6 := Lib.hid hO6
            have HR6 : Hid (Rd w6 S (i1 + 1 + 1 + 1) d) := Lib.hid (HR5.out.grow hgrow6 (fun e => by have := HLT.out _ e; omega) (fun e => by have := HLT.out _ e; omega))
            have HG6 := Lib.hid (grown_own HG5.out hgrow6 HLT.out)
            clear hown6 hgrow6 hO6
            go_wp2_with fail
            go_roundg gk
            case measure => omega
            case rel => exact ⟨acc ++ [m2], i1 + 1 + 1, p6, c6, by rw [hall], by rw [hall]; omega, HL3, HO6, HR6, HG6.out⟩
          · exact ⟨rfl, Or.inr ⟨ch, by rw [HEQ.out]; exact pan_bind ho, rfl, grown_trans HGT.out hg2⟩⟩
      · have hkf : (S.kd i1 == 7) = false := by simp [hkd]
        have HEQ : Hid (tot = .ok acc (i1 + 1)) := Lib.hid (by rw [HLS.out, hkf]; rfl)
        go_wp2_with fail
        refine wp_region_till (fun W => Below wr.heap.size wr W) 16 (by kernel_rfl) ?_
        have hS : Below wr.heap.size wr wr.drew := (Below.refl wr.heap.size wr).drew
        refine start_fp (N := 34) [(0, .pointer (some ⟨S.g, 0, none⟩))] (Fs.of rfl rfl (by simp [Act.eval])) ?_
        intro a0 ha0 hF
        refine take_fp 0 [1, 2, 3, 9, 10, 11, 12, 13, 14, 15, 16] (oi := { dst := some 10, op := Op.move (Operand.tmp 0), type := 56, pos := "parse.go:103", after := #[], guard := none }) (d := 10) (v := .pointer (some ⟨S.g, 0, none⟩)) hF hS rfl rfl (by decide) (by kernel_rfl) (by kernel_rfl) (by kernel_rfl) (by kernel_rfl) (fun _ _ _ h => h) (fun a' hA => wanted_none rfl) (run_move_fs rfl rfl) ?_
        clear hF
        intro hF
        refine take_fp 1 [2, 3, 9, 10, 11, 12, 13, 14, 15, 16] (oi := { dst := some 11, op := Op.nilCheck (Operand.tmp 10), type := 0, pos := "parse.go:103", after := #[{ on := 0, ground := Ground.data }], guard := none }) (d := 11) (v := .pointer (some ⟨S.g, 0, none⟩)) hF hS rfl rfl (by decide) (by kernel_rfl) (by kernel_rfl) (by kernel_rfl) (by kernel_rfl) (fun _ _ _ h => h) (fun a' hA => wanted_none rfl) (fun a' hA w' hw => by have e10 := hA.get 10 rfl; have ec : ∀ v, a'.eval (.const v) = v := fun _ => rfl; clear hA; generalize a'.eval = ρ at *; simp [go_sem, ec, e10]; try rfl) ?_
        clear hF
        intro hF
        refine take_fp 2 [3, 9, 10, 11, 12, 13, 14, 15, 16] (oi := { dst := some 12, op := Op.fieldAddr 66 (Operand.tmp 11) 1, type := 0, pos := "parse.go:103", after := #[{ on := 1, ground := Ground.data }], guard := none }) (d := 12) (v := .pointer (some ⟨S.g, 1, none⟩)) hF hS rfl rfl (by decide) (by kernel_rfl) (by kernel_rfl) (by kernel_rfl) (by kernel_rfl) (fun _ _ _ h => h) (fun a' hA => wanted_none rfl) (fun a' hA w' hw => by have e11 := hA.get 11 rfl; have ec : ∀ v, a'.eval (.const v) = v := fun _ => rfl; clear hA; generalize a'.eval = ρ at *; simp [go_sem, ec, e11]; try rfl) ?_
        clear hF
        intro hF
        refine take_fp 3 [9, 10, 11, 12, 13, 14, 15, 16] (oi := { dst := some 13, op := Op.load 32 (Operand.tmp 12), type := 32, pos := "parse.go:103", after := #[{ on := 2, ground := Ground.data }], guard := none }) (d := 13) (v := .slice (some ⟨S.gw, 0, none⟩) S.ts.length S.cw) hF hS rfl rfl (by decide) (by kernel_rfl) (by kernel_rfl) (by kernel_rfl) (by kernel_rfl) (fun _ _ _ h => h) (fun a' hA => wanted_none rfl) (fun a' hA w' hw => by have e12 := hA.get 12 rfl; have ec : ∀ v, a'.eval (.const v) = v := fun _ => rfl; obtain ⟨q1, q2, q3⟩ := HS _ hw; clear hA; generalize a'.eval = ρ at *; simp [go_sem, ec, e12, q1]; try rfl) ?_
        clear hF
        intro hF
        refine take_fp 4 [5, 6, 7, 8, 9, 10, 11, 12, 13, 14, 15, 16] (oi := { dst := some 14, op := Op.move (Operand.tmp 0), type := 56, pos := "parse.go:103", after := #[], guard := none }) (d := 14) (v := .pointer (some ⟨S.g, 0, none⟩)) hF hS rfl rfl (by decide) (by kernel_rfl) (by kernel_rfl) (by kernel_rfl) (by kernel_rfl) (fun _ _ _ h => h) (fun a' hA => wanted_none rfl) (run_move_fs rfl rfl) ?_
        clear hF
        intro hF
        refine take_fp 5 [6, 7, 8, 9, 10, 11, 12, 13, 14, 15, 16] (oi := { dst := some 15, op := Op.nilCheck (Operand.tmp 14), type := 0, pos := "parse.go:103", after := #[{ on := 4, ground := Ground.data }], guard := none }) (d := 15) (v := .pointer (some ⟨S.g, 0, none⟩)) hF hS rfl rfl (by decide) (by kernel_rfl) (by kernel_rfl) (by kernel_rfl) (by kernel_rfl) (fun _ _ _ h => h) (fun a' hA => wanted_none rfl) (fun a' hA w' hw => by have e14 := hA.get 14 rfl; have ec : ∀ v, a'.eval (.const v) = v := fun _ => rfl; clear hA; generalize a'.eval = ρ at *; simp [go_sem, ec, e14]; try rfl) ?_
        clear hF
        intro hF
        refine take_fp 6 [7, 8, 9, 10, 11, 12, 13, 14, 15, 16] (oi := { dst := some 16, op := Op.fieldAddr 66 (Operand.tmp 15) 2, type := 0, pos := "parse.go:103", after := #[{ on := 5, ground := Ground.data }], guard := none }) (d := 16) (v := .pointer (some ⟨S.g, 2, none⟩)) hF hS rfl rfl (by decide) (by kernel_rfl) (by kernel_rfl) (by kernel_rfl) (by kernel_rfl) (fun _ _ _ h => h) (fun a' hA => wanted_none rfl) (fun a' hA w' hw => by have e15 := hA.get 15 rfl; have ec : ∀ v, a'.eval (.const v) = v := fun _ => rfl; clear hA; generalize a'.eval = ρ at *; simp [go_sem, ec, e15]; try rfl) ?_
        clear hF
        intro hF
        refine take_fp 7 [8, 9, 10, 11, 12, 13, 14, 15, 16] (oi := { dst := some 17, op := Op.load 3 (Operand.tmp 16), type := 3, pos := "parse.go:103", after := #[{ on := 6, ground := Ground.data }], guard := none }) (d := 17) (v := .int .i64 ((i1 + 1 : Nat) : Int)) hF hS rfl rfl (by decide) (by kernel_rfl) (by kernel_rfl) (by kernel_rfl) (by kernel_rfl) (fun _ _ _ h => h) (fun a' hA => wanted_none rfl) (fun a' hA w' hw => by have e16 := hA.get 16 rfl; have ec : ∀ v, a'.eval (.const v) = v := fun _ => rfl; obtain ⟨q1, q2, q3⟩ := HS _ hw; clear hA; generalize a'.eval = ρ at *; simp [go_sem, ec, e16, q2]; try rfl) ?_
        clear hF
        intro hF
        refine take_fp 8 [9, 10, 11, 12, 13, 14, 15, 16] (oi := { dst := some 18, op := Op.binOp BinOp.sub 3 (Operand.tmp 17) (Operand.const (Value.int IntKind.i64 1)) 3, type := 3, pos := "parse.go:103", after := #[{ on := 7, ground := Ground.data }], guard := none }) (d := 18) (v := .int .i64 (i1 : Int)) hF hS rfl rfl (by decide) (by kernel_rfl) (by kernel_rfl) (by kernel_rfl) (by kernel_rfl) (fun _ _ _ h => h) (fun a' hA => wanted_none rfl) (fun a' hA w' hw => by have e17 := hA.get 17 rfl; have ec : ∀ v, a'.eval (.const v) = v := fun _ => rfl; clear hA; generalize a'.eval = ρ at *; simp [go_sem, ec, e17, hi1, hwr]; try rfl) ?_
        clear hF
        intro hF
        refine take_fp 9 [10, 11, 12, 13, 14, 15, 16] (oi := { dst := some 19, op := Op.indexAddr 32 (Operand.tmp 13) (Operand.tmp 18), type := 0, pos := "parse.go:103", after := #[{ on := 3, ground := Ground.data }, { on := 8, ground := Ground.data }], guard := none }) (d := 19) (v := .pointer (some ⟨S.gw, i1 * 3, none⟩)) hF hS rfl rfl (by decide) (by kernel_rfl) (by kernel_rfl) (by kernel_rfl) (by kernel_rfl) (fun _ _ _ h => h) (fun a' hA => wanted_none rfl) (fun a' hA w' hw => by have e13 := hA.get 13 rfl; have e18 := hA.get 18 rfl; have ec : ∀ v, a'.eval (.const v) = v := fun _ => rfl; clear hA; generalize a'.eval = ρ at *; simp [go_sem, ec, e13, e18, hx1, hx2]; try rfl) ?_
        clear hF
        intro hF
        refine take_fp 10 [11, 12, 13, 14, 15, 16] (oi := { dst := some 20, op := Op.fieldAddr 39 (Operand.tmp 19) 0, type := 0, pos := "parse.go:103", after := #[{ on := 9, ground := Ground.data }], guard := none }) (d := 20) (v := .pointer (some ⟨S.gw, i1 * 3, none⟩)) hF hS rfl rfl (by decide) (by kernel_rfl) (by kernel_rfl) (by kernel_rfl) (by kernel_rfl) (fun _ _ _ h => h) (fun a' hA => wanted_none rfl) (fun a' hA w' hw => by have e19 := hA.get 19 rfl; have ec : ∀ v, a'.eval (.const v) = v := fun _ => rfl; clear hA; generalize a'.eval = ρ at *; simp [go_sem, ec, e19]; try rfl) ?_
        clear hF
        intro hF
        refine take_fp 11 [12, 13, 14, 15, 16] (oi := { dst := some 21, op := Op.load 3 (Operand.tmp 20), type := 3, pos := "parse.go:103", after := #[{ on := 10, ground := Ground.data }], guard := none }) (d := 21) (v := .int .i64 (S.kd i1)) hF hS rfl rfl (by decide) (by kernel_rfl) (by kernel_rfl) (by kernel_rfl) (by kernel_rfl) (fun _ _ _ h => h) (fun a' hA => wanted_none rfl) (fun a' hA w' hw => by have e20 := hA.get 20 rfl; have ec : ∀ v, a'.eval (.const v) = v := fun _ => rfl; obtain ⟨q1, q2, q3⟩ := HS _ hw; clear hA; generalize a'.eval = ρ at *; simp [go_sem, ec, e20, q3]; try rfl) ?_
        clear hF
        intro hF
        refine take_fp 12 [13, 14, 15, 16] (oi := { dst := some 22, op := Op.binOp BinOp.eql 3 (Operand.tmp 21) (Operand.const (Value.int IntKind.i64 7)) 3, type := 4, pos := "parse.go:103", after := #[{ on := 11, ground := Ground.data }], guard := none }) (d := 22) (v := .bool false) hF hS rfl rfl (by decide) (by kernel_rfl) (by kernel_rfl) (by kernel_rfl) (by kernel_rfl) (fun _ _ _ h => h) (fun a' hA => wanted_none rfl) (fun a' hA w' hw => by have e21 := hA.get 21 rfl; have ec : ∀ v, a'.eval (.const v) = v := fun _ => rfl; clear hA; generalize a'.eval = ρ at *; simp [go_sem, ec, e21, hkd]; try rfl) ?_
        clear hF
        intro hF
        refine take_fp 13 [14, 15, 16] (oi := { dst := some 23, op := Op.move (Operand.tmp 22), type := 4, pos := "parse.go:103", after := #[{ on := 12, ground := Ground.data }], guard := none }) (d := 23) (v := .bool false) hF hS rfl rfl (by decide) (by kernel_rfl) (by kernel_rfl) (by kernel_rfl) (by kernel_rfl) (fun _ _ _ h => h) (fun a' hA => wanted_none rfl) (run_move_fs rfl rfl) ?_
        clear hF
        intro hF
        refine skip_fp 14 [15, 16] (oi := { dst := some 24, op := Op.move (Operand.tmp 0), type := 56, pos := "parse.go:103", after := #[{ on := 13, ground := Ground.guard }], guard := some (13, true) }) (d := 24) hF hS rfl rfl (by decide) (by kernel_rfl) (by kernel_rfl) (by kernel_rfl) (by kernel_rfl) (fun _ _ _ h => h) (fun a' hA => hA.unwanted (j := 13) (dj := 23) (b := true) (v := .bool false) rfl (by kernel_rfl) (by decide) rfl (by intro h; cases h)) ?_
        clear hF
        intro hF
        refine skip_fp 15 [16] (oi := { dst := some 25, op := Op.call { callee := Callee.value (Operand.func 46), args := #[Operand.tmp 24, Operand.const (Value.string { data := #[46] })], argTypes := #[56, 9] }, type := 4, pos := "parse.go:103", after := #[{ on := 14, ground := Ground.data }, { on := 13, ground := Ground.chain }, { on := 13, ground := Ground.guard }], guard := some (13, true) }) (d := 25) hF hS rfl rfl (by decide) (by kernel_rfl) (by kernel_rfl) (by kernel_rfl) (by kernel_rfl) (fun _ _ _ h => h) (fun a' hA => hA.unwanted (j := 13) (dj := 23) (b := true) (v := .bool false) rfl (by kernel_rfl) (by decide) rfl (by intro h; cases h)) ?_
        clear hF
        intro hF
        refine one_fp 16 (oi := { dst := some 26, op := Op.pick (Operand.tmp 23) (Operand.tmp 25) (Operand.const (Value.bool false)), type := 4, pos := "parse.go:103", after := #[{ on := 13, ground := Ground.data }, { on := 15, ground := Ground.data }], guard := none }) (d := 26) (v := .bool false) hF rfl rfl (by decide) (by kernel_rfl) (by kernel_rfl) (fun a' hA => wanted_none rfl) (fun a' hA => by have e23 := hA.get 23 rfl; have e25 := hA.get 25 rfl; have ec : ∀ v, a'.eval (.const v) = v := fun _ => rfl; clear hA; generalize a'.eval = ρ at *; simp [go_sem, ec, e23, e25]; try rfl) ?_
        clear hF
        intro hF
        refine wpTill_done (by kernel_rfl) ?_ _
        subst ha0
        simp only [Act.put, List.setIfInBounds_toArray, List.set_cons_zero, List.set_cons_succ]
        clear hF
        have HBD := Lib.hid hS
        go_wp2_with fail
        go_ret
        exact Or.inl ⟨acc, i1 + 1, _, HEQ.out, rfl, ownsRow_below HO.out HBD.out, HRr.out.step HBD.out, grown_trans HGR.out (grown_below HBD.out _)⟩
  · exact ⟨rfl, Or.inr ⟨ch, by rw [HTOT.out]; exact pan_bind ho, rfl, hg⟩⟩
theorem path1 (S : Src) (n d : Nat) (k : Int) (hk : k ≠ 0) (w : World) (h : Rd w S n d) (hdry : S.path [k] n ≠ .dry) :
    Calls Tryz.prog 70 #[.pointer (some ⟨S.g, 0, none⟩), .slice (some ⟨w.heap.size, 0, none⟩) 1 1] (w.alloc (.cells #[.int .i64 k] 3)) fun e w' => Ends S d w (S.path [k] n) (RL w) e w' := by
  have hb : Below w.heap.size w (w.alloc (.cells #[.int .i64 k] 3)) := (Below.refl w.heap.size w).alloc (Nat.le_refl _) _
  refine (rpath_any S n d [k] w.heap.size 1 _ (h.step hb) cells_one (by simp) (by have := h.lt; omega) (by simp) (by simp) (by simpa using fun e : 0 = k => hk e.symm) hdry).mono fun e w' he => ?_
  refine Ends.base ?_ (grown_below hb _)
  rcases he with ⟨x, n, v, h1, h2, h3, h4, h5⟩ | h1
  · exact Or.inl ⟨x, n, v, h1, h2, own_base h3 (by simp), h4, h5⟩
  · exact Or.inr h1
theorem path2 (S : Src) (n d : Nat) (k j : Int) (hk : k ≠ 0) (hj : j ≠ 0) (w : World) (h : Rd w S n d) (hdry : S.path [k, j] n ≠ .dry) :
    Calls Tryz.prog 70 #[.pointer (some ⟨S.g, 0, none⟩), .slice (some ⟨w.heap.size, 0, none⟩) 2 2] (w.alloc (.cells #[.int .i64 k, .int .i64 j] 3)) fun e w' => Ends S d w (S.path [k, j] n) (RL w) e w' := by
  have hb : Below w.heap.size w (w.alloc (.cells #[.int .i64 k, .int .i64 j] 3)) := (Below.refl w.heap.size w).alloc (Nat.le_refl _) _
  refine (rpath_any S n d [k, j] w.heap.size 2 _ (h.step hb) cells_two (by simp) (by have := h.lt; omega) (by simp) (by simp) (by simpa using And.intro (fun e : 0 = k => hk e.symm) (fun e : 0 = j => hj e.symm)) hdry).mono fun e w' he => ?_
  refine Ends.base ?_ (grown_below hb _)
  rcases he with ⟨x, n, v, h1, h2, h3, h4, h5⟩ | h1
  · exact Or.inl ⟨x, n, v, h1, h2, own_base h3 (by simp), h4, h5⟩
  · exact Or.inr h1
end Go.Proofs.YtkjgkchdkeggoaaGreatDoor
