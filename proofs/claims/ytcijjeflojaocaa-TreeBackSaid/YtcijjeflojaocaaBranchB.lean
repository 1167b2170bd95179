/-
  Branch: the region that makes the copy's box.
-/
import Derived.Test.YtcijjeflojaocaaCopy
import Derived.Test.YtcijjeflojaocaaTail
namespace Go.Proofs.Ytcijjeflojaocaa
open Go.RowKit
set_option linter.unusedVariables false
set_option linter.unusedSimpArgs false

theorem Fs.of4 {a : Act} {N : Nat} {L : List (Nat × Value)} (hs : a.tmps.size = N) (hd : a.defers = []) (h : ∀ p ∈ L, a.eval (.tmp p.1) = p.2) : Fs a N L := Fs.of hs hd h
section
variable {P : Program} {ops : Array Oper} {Q : Exit → Act → World → Prop} {S : World → Prop} {st : Nat}
theorem take_fs' (i : Nat) (U : List Nat) {oi : Oper} {d : Nat} {v : Value} {N : Nat} {L : List (Nat × Value)} {fuel : Nat} {listed : Array Bool} {a : Act} {w : World} (hF : Fs a N L) (hQ : ∀ c (a a' : Act) w, a'.defers = a.defers → Q (.panic c) a w → Q (.panic c) a' w) (hS : S w) (hi : ops[i]? = some oi) (hd : oi.dst = some d) (hdN : d < N)
    (hs : Region.noSelect ops = true) (hf : Region.free .any ops listed i = true) (hr : (Region.ready .any ops listed).contains i = true) (hU : (waitsB ops i listed U && U.contains st && !U.contains i) = true)
    (hw : ∀ a', Fs a' N L → Region.wanted oi (yielded ops a'.tmps) = true)
    (hrun : ∀ a', Fs a' N L → ∀ w', S w' → (execOp a'.eval oi).run P w' = .ok (.value v) w')
    (h : ∀ a', Fs a' N ((d, v) :: L) → wpTill P ops Q S st fuel (listed.setIfInBounds i true) a' w) : wpTill P ops Q S st (fuel + 1) listed a w := by
  refine wpTill_take i U hi hs hf hr hU (fun c a w h => hQ c (a.put oi.dst v) a w (by rw [hd]; rfl) h) (Or.inl ⟨hw a hF, hrun a hF⟩) hS ?_
  rw [hd]
  exact h _ (hF.put hdN v)
/-- Two numbers may come up. -/
theorem wpTill_two (i j : Nat) {o1 o2 : Oper} {fuel : Nat} {listed : Array Bool} {a : Act} {w : World} (hr : Region.ready .any ops listed = [i, j]) (ho1 : ops[i]? = some o1) (ho2 : ops[j]? = some o2)
    (h1 : ∀ K' : Act → World → Prop, Hid (∀ a w, ((listed.setIfInBounds i true).getD st true = false → S w) → wpTill P ops Q S st fuel (listed.setIfInBounds i true) a w → K' a w) → if Region.wanted o1 (yielded ops a.tmps) = true then Oper.wp P o1 a w K' Q else K' (a.put o1.dst undef) w)
    (h2 : ∀ K' : Act → World → Prop, Hid (∀ a w, ((listed.setIfInBounds j true).getD st true = false → S w) → wpTill P ops Q S st fuel (listed.setIfInBounds j true) a w → K' a w) → if Region.wanted o2 (yielded ops a.tmps) = true then Oper.wp P o2 a w K' Q else K' (a.put o2.dst undef) w) :
    wpTill P ops Q S st (fuel + 1) listed a w := by
  refine ⟨fun h0 => (by rw [hr] at h0; cases h0), fun q hq => ?_⟩
  rw [hr] at hq
  rcases List.mem_cons.1 hq with rfl | hq
  · exact wpOp_step ho1 (fun K' hK => h1 K' (Lib.hid fun a w h1 h2 => hK a w ⟨h1, h2⟩))
  · obtain rfl := List.mem_singleton.1 hq
    exact wpOp_step ho2 (fun K' hK => h2 K' (Lib.hid fun a w h1 h2 => hK a w ⟨h1, h2⟩))
end
def opsB4 : Array Oper := #[{ dst := some 21, op := Op.fieldAddr 34 (Operand.tmp 5) 0, type := 0, pos := "tree.go:160", after := #[], guard := none },
  { dst := some 22, op := Op.load 3 (Operand.tmp 21), type := 3, pos := "tree.go:160", after := #[{ on := 0, ground := Ground.data }], guard := none },
  { dst := some 23, op := Op.fieldAddr 34 (Operand.tmp 5) 1, type := 0, pos := "tree.go:160", after := #[], guard := none },
  { dst := some 24, op := Op.load 3 (Operand.tmp 23), type := 3, pos := "tree.go:160", after := #[{ on := 2, ground := Ground.data }], guard := none },
  { dst := some 25, op := Op.fieldAddr 34 (Operand.tmp 5) 2, type := 0, pos := "tree.go:160", after := #[], guard := none },
  { dst := some 26, op := Op.load 3 (Operand.tmp 25), type := 3, pos := "tree.go:160", after := #[{ on := 4, ground := Ground.data }], guard := none },
  { dst := some 27, op := Op.fieldAddr 34 (Operand.tmp 5) 3, type := 0, pos := "tree.go:160", after := #[], guard := none },
  { dst := some 28, op := Op.load 3 (Operand.tmp 27), type := 3, pos := "tree.go:160", after := #[{ on := 6, ground := Ground.data }], guard := none },
  { dst := some 29, op := Op.move (Operand.tmp 0), type := 28, pos := "tree.go:160", after := #[], guard := none },
  { dst := some 30, op := Op.move (Operand.tmp 1), type := 3, pos := "tree.go:160", after := #[], guard := none },
  { dst := some 31, op := Op.call { callee := Callee.value (Operand.func 14), args := #[Operand.tmp 29, Operand.tmp 30], argTypes := #[28, 3] }, type := 22, pos := "tree.go:160", after := #[{ on := 8, ground := Ground.data }, { on := 9, ground := Ground.data }], guard := none },
  { dst := some 32, op := Op.build 25 #[(0, Operand.tmp 22), (1, Operand.tmp 24), (2, Operand.tmp 26), (3, Operand.tmp 28), (4, Operand.tmp 31)], type := 25, pos := "tree.go:160", after := #[{ on := 1, ground := Ground.data }, { on := 3, ground := Ground.data }, { on := 5, ground := Ground.data }, { on := 7, ground := Ground.data }, { on := 10, ground := Ground.data }], guard := none },
  { dst := some 6, op := Op.alloc 25, type := 0, pos := "tree.go:160", after := #[], guard := none },
  { dst := none, op := Op.store 25 (Operand.tmp 6) (Operand.tmp 32), type := 0, pos := "tree.go:160", after := #[{ on := 12, ground := Ground.data }, { on := 11, ground := Ground.data }, { on := 10, ground := Ground.chain }, { on := 0, ground := Ground.phase }, { on := 1, ground := Ground.phase }, { on := 2, ground := Ground.phase }, { on := 3, ground := Ground.phase }, { on := 4, ground := Ground.phase }, { on := 5, ground := Ground.phase }, { on := 6, ground := Ground.phase }, { on := 7, ground := Ground.phase }, { on := 8, ground := Ground.phase }, { on := 9, ground := Ground.phase }, { on := 10, ground := Ground.phase }, { on := 11, ground := Ground.phase }, { on := 12, ground := Ground.phase }], guard := none }]

set_option maxRecDepth 20000 in
set_option maxHeartbeats 4000000 in
theorem regionB4 {Q : Exit → Act → World → Prop} {a : Act} {w : World} (T k rb kb : Nat) (hk hm hf ht : Int) (ns : List Int)
    (hF : Fs a 55 [(0, .pointer (some ⟨T, 0, none⟩)), (1, .int .i64 (k : Int)), (4, .pointer (some ⟨rb, 0, none⟩)), (5, .pointer (some ⟨kb, 0, none⟩))])
    (HS : ∀ W, Below w.heap.size w W → W.cell? ⟨kb, 0, none⟩ = some (.int .i64 hk) ∧ W.cell? ⟨kb, 1, none⟩ = some (.int .i64 hm) ∧ W.cell? ⟨kb, 2, none⟩ = some (.int .i64 hf) ∧ W.cell? ⟨kb, 3, none⟩ = some (.int .i64 ht))
    (HN : ∀ W, Below w.heap.size w W → Calls Try.prog 14 #[.pointer (some ⟨T, 0, none⟩), .int .i64 k] W fun e w' => ∃ p c, e = .returned (.slice p ns.length c) ∧ In mkI w' p ns.length c ns ∧ (∀ a, p = some a → W.heap.size ≤ a.block) ∧ Below W.heap.size W w')
    (hQ : ∀ c (a a' : Act) w, a'.defers = a.defers → Q (.panic c) a w → Q (.panic c) a' w)
    (H : ∀ a' w' bb pn cn, Fs a' 55 [(0, .pointer (some ⟨T, 0, none⟩)), (1, .int .i64 (k : Int)), (4, .pointer (some ⟨rb, 0, none⟩)), (5, .pointer (some ⟨kb, 0, none⟩)), (6, .pointer (some ⟨bb, 0, none⟩))] → w.heap.size ≤ bb → w'.ownsRow bb 25 6 (.slice (some ⟨bb, 0, none⟩) 1 1) 1 [.int .i64 hk, .int .i64 hm, .int .i64 hf, .int .i64 ht, .slice pn ns.length cn, .slice none 0 0] →
      In mkI w' pn ns.length cn ns → (∀ q, pn = some q → ns.length ≠ 0 → w.heap.size ≤ q.block ∧ q.block ≠ bb) → Below w.heap.size w w' → Q .normal a' w') :
    (Code.region 4 opsB4 true).wp Try.prog Q a w := by
  refine wp_region_till (fun W => Below w.heap.size w W) 13 (by kernel_rfl) ?_
  have hS : Below w.heap.size w w.drew := (Below.refl w.heap.size w).drew
  obtain ⟨wc, hwc⟩ : ∃ wc, wc = w.drew := ⟨_, rfl⟩
  rw [← hwc] at hS ⊢
  clear hwc
  have HST : ∀ (a : Act) (w3 : World) (bb : Nat) (pn : Option Addr) (cn : Nat), a.eval (.tmp 0) = .pointer (some ⟨T, 0, none⟩) → a.eval (.tmp 1) = .int .i64 (k : Int) → a.eval (.tmp 4) = .pointer (some ⟨rb, 0, none⟩) → a.eval (.tmp 5) = .pointer (some ⟨kb, 0, none⟩) → a.eval (.tmp 6) = .pointer (some ⟨bb, 0, none⟩) → a.eval (.tmp 32) = .agg #[.int .i64 hk, .int .i64 hm, .int .i64 hf, .int .i64 ht, .slice pn ns.length cn, .slice none 0 0] → a.tmps.size = 55 → a.defers = [] → w.heap.size ≤ bb →
      w3.ownsRow bb 25 6 (.slice (some ⟨bb, 0, none⟩) 1 1) 1 [.int .i64 0, .int .i64 0, .int .i64 0, .int .i64 0, .slice none 0 0, .slice none 0 0] → In mkI w3 pn ns.length cn ns → (∀ q, pn = some q → ns.length ≠ 0 → w.heap.size ≤ q.block ∧ q.block ≠ bb) → Below w.heap.size w w3 →
      ∀ listed : Array Bool, listed = (Array.replicate 14 true).setIfInBounds 13 false → wpTill Try.prog opsB4 Q (fun W => Below w.heap.size w W) 13 1 listed a w3 := by
    intro a w3 bb pn cn e0 e1 e4 e5 e6 e32 hsz hdf hbb hrow hin hfr hS3 listed hl
    subst hl
    refine wpTill_one 13 (o := { dst := none, op := Op.store 25 (Operand.tmp 6) (Operand.tmp 32), type := 0, pos := "tree.go:160", after := #[{ on := 12, ground := Ground.data }, { on := 11, ground := Ground.data }, { on := 10, ground := Ground.chain }, { on := 0, ground := Ground.phase }, { on := 1, ground := Ground.phase }, { on := 2, ground := Ground.phase }, { on := 3, ground := Ground.phase }, { on := 4, ground := Ground.phase }, { on := 5, ground := Ground.phase }, { on := 6, ground := Ground.phase }, { on := 7, ground := Ground.phase }, { on := 8, ground := Ground.phase }, { on := 9, ground := Ground.phase }, { on := 10, ground := Ground.phase }, { on := 11, ground := Ground.phase }, { on := 12, ground := Ground.phase }], guard := none }) (by kernel_rfl) rfl ?_
    intro K' hK
    rw [if_pos (wanted_none rfl)]
    unfold Oper.wp
    have c0 := own_cell hrow 0 _ rfl
    have c1 := own_cell hrow 1 _ rfl
    have c2 := own_cell hrow 2 _ rfl
    have c3 := own_cell hrow 3 _ rfl
    have c4 := own_cell hrow 4 _ rfl
    have c5 := own_cell hrow 5 _ rfl
    have f0 := own_frozen hrow 0
    have f1 := own_frozen hrow 1
    have f2 := own_frozen hrow 2
    have f3 := own_frozen hrow 3
    have f4 := own_frozen hrow 4
    have f5 := own_frozen hrow 5
    have hrow' := own_set (own_set (own_set (own_set (own_set (own_set hrow 0 (.int .i64 hk) (by omega)) 1 (.int .i64 hm) (by omega)) 2 (.int .i64 hf) (by omega)) 3 (.int .i64 ht) (by omega)) 4 (.slice pn ns.length cn) (by omega)) 5 (.slice none 0 0) (by omega)
    have hrun : (execOp a.eval { dst := none, op := Op.store 25 (Operand.tmp 6) (Operand.tmp 32), type := 0, pos := "tree.go:160", after := #[{ on := 12, ground := Ground.data }, { on := 11, ground := Ground.data }, { on := 10, ground := Ground.chain }, { on := 0, ground := Ground.phase }, { on := 1, ground := Ground.phase }, { on := 2, ground := Ground.phase }, { on := 3, ground := Ground.phase }, { on := 4, ground := Ground.phase }, { on := 5, ground := Ground.phase }, { on := 6, ground := Ground.phase }, { on := 7, ground := Ground.phase }, { on := 8, ground := Ground.phase }, { on := 9, ground := Ground.phase }, { on := 10, ground := Ground.phase }, { on := 11, ground := Ground.phase }, { on := 12, ground := Ground.phase }], guard := none }).run Try.prog w3 = .ok .skip ((((((w3.setCell ⟨bb, 0, none⟩ (.int .i64 hk)).setCell ⟨bb, 1, none⟩ (.int .i64 hm)).setCell ⟨bb, 2, none⟩ (.int .i64 hf)).setCell ⟨bb, 3, none⟩ (.int .i64 ht)).setCell ⟨bb, 4, none⟩ (.slice pn ns.length cn)).setCell ⟨bb, 5, none⟩ (.slice none 0 0)) := by
      generalize a.eval = ρ at *
      simp [go_sem, e6, e32, c0, c1, c2, c3, c4, c5, f0, f1, f2, f3, f4, f5]
    rw [hrun, Oper.upon_skip]
    refine hK.out _ _ (fun h => absurd h (by decide)) ?_
    refine wpTill_done (by kernel_rfl) ?_ _
    have hS4 := (((((hS3.setCell (p := ⟨bb, 0, none⟩) hbb (.int .i64 hk)).setCell (p := ⟨bb, 1, none⟩) hbb (.int .i64 hm)).setCell (p := ⟨bb, 2, none⟩) hbb (.int .i64 hf)).setCell (p := ⟨bb, 3, none⟩) hbb (.int .i64 ht)).setCell (p := ⟨bb, 4, none⟩) hbb (.slice pn ns.length cn)).setCell (p := ⟨bb, 5, none⟩) hbb (.slice none 0 0)
    refine H _ _ bb pn cn (Fs.of hsz hdf ?_) hbb hrow' (in_kept hin (by simp) (fun q hn hq => ?_)) hfr hS4
    · simp only [List.forall_mem_cons]
      exact ⟨e0, e1, e4, e5, e6, by simp⟩
    · have hne := (hfr q hq hn).2
      rw [Below.heap_setCell _ _ _ _ hne, Below.heap_setCell _ _ _ _ hne, Below.heap_setCell _ _ _ _ hne, Below.heap_setCell _ _ _ _ hne, Below.heap_setCell _ _ _ _ hne, Below.heap_setCell _ _ _ _ hne]
  refine take_fs' 0 [1, 11, 13] (oi := { dst := some 21, op := Op.fieldAddr 34 (Operand.tmp 5) 0, type := 0, pos := "tree.go:160", after := #[], guard := none }) (d := 21) (v := .pointer (some ⟨kb, 0, none⟩)) hF hQ hS rfl rfl (by decide) (by kernel_rfl) (by kernel_rfl) (by kernel_rfl) (by kernel_rfl) (fun a' hA => wanted_none rfl) (fun a' hA w' hw => by have e5 := hA.get 5 rfl; have ec : ∀ v, a'.eval (.const v) = v := fun _ => rfl; clear hA; generalize a'.eval = ρ at *; simp [go_sem, ec, e5]; try rfl) ?_
  clear hF
  intro a hF
  refine take_fs' 1 [11, 13] (oi := { dst := some 22, op := Op.load 3 (Operand.tmp 21), type := 3, pos := "tree.go:160", after := #[{ on := 0, ground := Ground.data }], guard := none }) (d := 22) (v := .int .i64 hk) hF hQ hS rfl rfl (by decide) (by kernel_rfl) (by kernel_rfl) (by kernel_rfl) (by kernel_rfl) (fun a' hA => wanted_none rfl) (fun a' hA w' hw => by have e21 := hA.get 21 rfl; have ec : ∀ v, a'.eval (.const v) = v := fun _ => rfl; obtain ⟨q0, q1, q2, q3⟩ := HS _ hw; clear hA; generalize a'.eval = ρ at *; simp [go_sem, ec, e21, q0, q1, q2, q3]; try rfl) ?_
  clear hF
  intro a hF
  refine take_fs' 2 [3, 11, 13] (oi := { dst := some 23, op := Op.fieldAddr 34 (Operand.tmp 5) 1, type := 0, pos := "tree.go:160", after := #[], guard := none }) (d := 23) (v := .pointer (some ⟨kb, 1, none⟩)) hF hQ hS rfl rfl (by decide) (by kernel_rfl) (by kernel_rfl) (by kernel_rfl) (by kernel_rfl) (fun a' hA => wanted_none rfl) (fun a' hA w' hw => by have e5 := hA.get 5 rfl; have ec : ∀ v, a'.eval (.const v) = v := fun _ => rfl; clear hA; generalize a'.eval = ρ at *; simp [go_sem, ec, e5]; try rfl) ?_
  clear hF
  intro a hF
  refine take_fs' 3 [11, 13] (oi := { dst := some 24, op := Op.load 3 (Operand.tmp 23), type := 3, pos := "tree.go:160", after := #[{ on := 2, ground := Ground.data }], guard := none }) (d := 24) (v := .int .i64 hm) hF hQ hS rfl rfl (by decide) (by kernel_rfl) (by kernel_rfl) (by kernel_rfl) (by kernel_rfl) (fun a' hA => wanted_none rfl) (fun a' hA w' hw => by have e23 := hA.get 23 rfl; have ec : ∀ v, a'.eval (.const v) = v := fun _ => rfl; obtain ⟨q0, q1, q2, q3⟩ := HS _ hw; clear hA; generalize a'.eval = ρ at *; simp [go_sem, ec, e23, q0, q1, q2, q3]; try rfl) ?_
  clear hF
  intro a hF
  refine take_fs' 4 [5, 11, 13] (oi := { dst := some 25, op := Op.fieldAddr 34 (Operand.tmp 5) 2, type := 0, pos := "tree.go:160", after := #[], guard := none }) (d := 25) (v := .pointer (some ⟨kb, 2, none⟩)) hF hQ hS rfl rfl (by decide) (by kernel_rfl) (by kernel_rfl) (by kernel_rfl) (by kernel_rfl) (fun a' hA => wanted_none rfl) (fun a' hA w' hw => by have e5 := hA.get 5 rfl; have ec : ∀ v, a'.eval (.const v) = v := fun _ => rfl; clear hA; generalize a'.eval = ρ at *; simp [go_sem, ec, e5]; try rfl) ?_
  clear hF
  intro a hF
  refine take_fs' 5 [11, 13] (oi := { dst := some 26, op := Op.load 3 (Operand.tmp 25), type := 3, pos := "tree.go:160", after := #[{ on := 4, ground := Ground.data }], guard := none }) (d := 26) (v := .int .i64 hf) hF hQ hS rfl rfl (by decide) (by kernel_rfl) (by kernel_rfl) (by kernel_rfl) (by kernel_rfl) (fun a' hA => wanted_none rfl) (fun a' hA w' hw => by have e25 := hA.get 25 rfl; have ec : ∀ v, a'.eval (.const v) = v := fun _ => rfl; obtain ⟨q0, q1, q2, q3⟩ := HS _ hw; clear hA; generalize a'.eval = ρ at *; simp [go_sem, ec, e25, q0, q1, q2, q3]; try rfl) ?_
  clear hF
  intro a hF
  refine take_fs' 6 [7, 11, 13] (oi := { dst := some 27, op := Op.fieldAddr 34 (Operand.tmp 5) 3, type := 0, pos := "tree.go:160", after := #[], guard := none }) (d := 27) (v := .pointer (some ⟨kb, 3, none⟩)) hF hQ hS rfl rfl (by decide) (by kernel_rfl) (by kernel_rfl) (by kernel_rfl) (by kernel_rfl) (fun a' hA => wanted_none rfl) (fun a' hA w' hw => by have e5 := hA.get 5 rfl; have ec : ∀ v, a'.eval (.const v) = v := fun _ => rfl; clear hA; generalize a'.eval = ρ at *; simp [go_sem, ec, e5]; try rfl) ?_
  clear hF
  intro a hF
  refine take_fs' 7 [11, 13] (oi := { dst := some 28, op := Op.load 3 (Operand.tmp 27), type := 3, pos := "tree.go:160", after := #[{ on := 6, ground := Ground.data }], guard := none }) (d := 28) (v := .int .i64 ht) hF hQ hS rfl rfl (by decide) (by kernel_rfl) (by kernel_rfl) (by kernel_rfl) (by kernel_rfl) (fun a' hA => wanted_none rfl) (fun a' hA w' hw => by have e27 := hA.get 27 rfl; have ec : ∀ v, a'.eval (.const v) = v := fun _ => rfl; obtain ⟨q0, q1, q2, q3⟩ := HS _ hw; clear hA; generalize a'.eval = ρ at *; simp [go_sem, ec, e27, q0, q1, q2, q3]; try rfl) ?_
  clear hF
  intro a hF
  refine take_fs' 8 [10, 11, 13] (oi := { dst := some 29, op := Op.move (Operand.tmp 0), type := 28, pos := "tree.go:160", after := #[], guard := none }) (d := 29) (v := .pointer (some ⟨T, 0, none⟩)) hF hQ hS rfl rfl (by decide) (by kernel_rfl) (by kernel_rfl) (by kernel_rfl) (by kernel_rfl) (fun a' hA => wanted_none rfl) (run_move_fs rfl rfl) ?_
  clear hF
  intro a hF
  refine take_fs' 9 [10, 11, 13] (oi := { dst := some 30, op := Op.move (Operand.tmp 1), type := 3, pos := "tree.go:160", after := #[], guard := none }) (d := 30) (v := .int .i64 (k : Int)) hF hQ hS rfl rfl (by decide) (by kernel_rfl) (by kernel_rfl) (by kernel_rfl) (by kernel_rfl) (fun a' hA => wanted_none rfl) (run_move_fs rfl rfl) ?_
  clear hF
  intro a hF
  refine wpTill_two 10 12 (o1 := { dst := some 31, op := Op.call { callee := Callee.value (Operand.func 14), args := #[Operand.tmp 29, Operand.tmp 30], argTypes := #[28, 3] }, type := 22, pos := "tree.go:160", after := #[{ on := 8, ground := Ground.data }, { on := 9, ground := Ground.data }], guard := none }) (o2 := { dst := some 6, op := Op.alloc 25, type := 0, pos := "tree.go:160", after := #[], guard := none }) (by kernel_rfl) rfl rfl ?_ ?_
  · -- the call first
    intro K' hK
    rw [if_pos (wanted_none rfl)]
    unfold Oper.wp
    rw [(show (execOp a.eval { dst := some 31, op := Op.call { callee := Callee.value (Operand.func 14), args := #[Operand.tmp 29, Operand.tmp 30], argTypes := #[28, 3] }, type := 22, pos := "tree.go:160", after := #[{ on := 8, ground := Ground.data }, { on := 9, ground := Ground.data }], guard := none }).run Try.prog wc = .ok (.enter 14 #[.pointer (some ⟨T, 0, none⟩), .int .i64 (k : Int)]) wc from by have e29 := hF.get 29 rfl; have e30 := hF.get 30 rfl; have ef : ∀ f, a.eval (.func f) = .func (.func f) #[] #[] := fun _ => rfl; revert e29 e30 ef; generalize a.eval = ρ; intro e29 e30 ef; simp [go_sem, ef, e29, e30]), Oper.upon_enter]
    refine (HN _ hS).mono ?_
    rintro e w2 ⟨pn, cn, rfl, hin, hfr, hb2⟩
    have hS2 : Below w.heap.size w w2 := hS.trans (hb2.mono hS.size)
    have hz2 := hS2.size
    have hF2 := hF.put (d := 31) (by decide) (.slice pn ns.length cn)
    refine hK.out _ _ (fun _ => hS2) ?_
    clear hK K'
    show wpTill _ _ _ _ _ _ _ (a.put (some 31) (.slice pn ns.length cn)) w2
    generalize a.put (some 31) (.slice pn ns.length cn) = a at *
    have hF := hF2
    clear hF2
    refine take_fs' 11 [13] (oi := { dst := some 32, op := Op.build 25 #[(0, Operand.tmp 22), (1, Operand.tmp 24), (2, Operand.tmp 26), (3, Operand.tmp 28), (4, Operand.tmp 31)], type := 25, pos := "tree.go:160", after := #[{ on := 1, ground := Ground.data }, { on := 3, ground := Ground.data }, { on := 5, ground := Ground.data }, { on := 7, ground := Ground.data }, { on := 10, ground := Ground.data }], guard := none }) (d := 32) (v := .agg #[.int .i64 hk, .int .i64 hm, .int .i64 hf, .int .i64 ht, .slice pn ns.length cn, .slice none 0 0]) hF hQ hS2 rfl rfl (by decide) (by kernel_rfl) (by kernel_rfl) (by kernel_rfl) (by kernel_rfl) (fun a' hA => wanted_none rfl) (fun a' hA w' hw => by have e22 := hA.get 22 rfl; have e24 := hA.get 24 rfl; have e26 := hA.get 26 rfl; have e28 := hA.get 28 rfl; have e31 := hA.get 31 rfl; have ec : ∀ v, a'.eval (.const v) = v := fun _ => rfl; clear hA; generalize a'.eval = ρ at *; simp [go_sem, ec, e22, e24, e26, e28, e31]; try rfl) ?_
    clear hF
    intro a hF
    refine wpTill_one 12 (o := { dst := some 6, op := Op.alloc 25, type := 0, pos := "tree.go:160", after := #[], guard := none }) (by kernel_rfl) rfl ?_
    intro K' hK
    rw [if_pos (wanted_none rfl)]
    unfold Oper.wp
    rw [show (execOp a.eval { dst := some 6, op := Op.alloc 25, type := 0, pos := "tree.go:160", after := #[], guard := none }).run Try.prog w2 = .ok (.value (.pointer (some ⟨w2.heap.size, 0, none⟩))) (w2.alloc (.cells #[.int .i64 0, .int .i64 0, .int .i64 0, .int .i64 0, .slice none 0 0, .slice none 0 0] 25)) by simp [go_sem], Oper.upon_value]
    have hS3 : Below w.heap.size w (w2.alloc (.cells #[.int .i64 0, .int .i64 0, .int .i64 0, .int .i64 0, .slice none 0 0, .slice none 0 0] 25)) := hS2.alloc hz2 _
    refine hK.out _ _ (fun _ => hS3) ?_
    clear hK K'
    have hF2 := hF.put (d := 6) (by decide) (.pointer (some ⟨w2.heap.size, 0, none⟩))
    have hin3 := hin.step ((Below.refl w2.heap.size w2).alloc (Nat.le_refl _) (.cells #[.int .i64 0, .int .i64 0, .int .i64 0, .int .i64 0, .slice none 0 0, .slice none 0 0] 25))
    have hrow := own_lit (base := w2.heap.size) (n := 1) (size := 6) (heap_alloc_new w2 (.cells #[.int .i64 0, .int .i64 0, .int .i64 0, .int .i64 0, .slice none 0 0, .slice none 0 0] 25)) (Nat.le_refl _) rfl (by unfold maxLen; omega)
    refine HST _ _ w2.heap.size pn cn (hF2.get 0 rfl) (hF2.get 1 rfl) (hF2.get 4 rfl) (hF2.get 5 rfl) (hF2.get 6 rfl) (hF2.get 32 rfl) hF2.1 hF2.2.1 hz2 (own_base hrow (Nat.le_refl _)) hin3 (fun q hq hn => ⟨Nat.le_trans hS.size (hfr q hq), fun hqe => ?_⟩) hS3 _ (by kernel_rfl)
    have := in_block hin q hn hq
    omega
  · -- the block first
    intro K' hK
    rw [if_pos (wanted_none rfl)]
    unfold Oper.wp
    rw [show (execOp a.eval { dst := some 6, op := Op.alloc 25, type := 0, pos := "tree.go:160", after := #[], guard := none }).run Try.prog wc = .ok (.value (.pointer (some ⟨wc.heap.size, 0, none⟩))) (wc.alloc (.cells #[.int .i64 0, .int .i64 0, .int .i64 0, .int .i64 0, .slice none 0 0, .slice none 0 0] 25)) by simp [go_sem], Oper.upon_value]
    have hzc := hS.size
    have hS1 : Below w.heap.size w (wc.alloc (.cells #[.int .i64 0, .int .i64 0, .int .i64 0, .int .i64 0, .slice none 0 0, .slice none 0 0] 25)) := hS.alloc hzc _
    refine hK.out _ _ (fun _ => hS1) ?_
    clear hK K'
    have hF2 := hF.put (d := 6) (by decide) (.pointer (some ⟨wc.heap.size, 0, none⟩))
    show wpTill _ _ _ _ _ _ _ (a.put (some 6) (.pointer (some ⟨wc.heap.size, 0, none⟩))) _
    generalize a.put (some 6) (.pointer (some ⟨wc.heap.size, 0, none⟩)) = a at *
    have hF := hF2
    clear hF2
    have hrow := own_lit (base := wc.heap.size) (n := 1) (size := 6) (heap_alloc_new wc (.cells #[.int .i64 0, .int .i64 0, .int .i64 0, .int .i64 0, .slice none 0 0, .slice none 0 0] 25)) (Nat.le_refl _) rfl (by unfold maxLen; omega)
    have hzb : (wc.alloc (.cells #[.int .i64 0, .int .i64 0, .int .i64 0, .int .i64 0, .slice none 0 0, .slice none 0 0] 25)).heap.size = wc.heap.size + 1 := by simp
    generalize wc.alloc (.cells #[.int .i64 0, .int .i64 0, .int .i64 0, .int .i64 0, .slice none 0 0, .slice none 0 0] 25) = wb at *
    refine wpTill_one 10 (o := { dst := some 31, op := Op.call { callee := Callee.value (Operand.func 14), args := #[Operand.tmp 29, Operand.tmp 30], argTypes := #[28, 3] }, type := 22, pos := "tree.go:160", after := #[{ on := 8, ground := Ground.data }, { on := 9, ground := Ground.data }], guard := none }) (by kernel_rfl) rfl ?_
    intro K' hK
    rw [if_pos (wanted_none rfl)]
    unfold Oper.wp
    rw [(show (execOp a.eval { dst := some 31, op := Op.call { callee := Callee.value (Operand.func 14), args := #[Operand.tmp 29, Operand.tmp 30], argTypes := #[28, 3] }, type := 22, pos := "tree.go:160", after := #[{ on := 8, ground := Ground.data }, { on := 9, ground := Ground.data }], guard := none }).run Try.prog wb = .ok (.enter 14 #[.pointer (some ⟨T, 0, none⟩), .int .i64 (k : Int)]) wb from by have e29 := hF.get 29 rfl; have e30 := hF.get 30 rfl; have ef : ∀ f, a.eval (.func f) = .func (.func f) #[] #[] := fun _ => rfl; revert e29 e30 ef; generalize a.eval = ρ; intro e29 e30 ef; simp [go_sem, ef, e29, e30]), Oper.upon_enter]
    refine (HN _ hS1).mono ?_
    rintro e w2 ⟨pn, cn, rfl, hin, hfr, hb2⟩
    have hS2 : Below w.heap.size w w2 := hS1.trans (hb2.mono hS1.size)
    have hz2 := hS2.size
    have hF2 := hF.put (d := 31) (by decide) (.slice pn ns.length cn)
    refine hK.out _ _ (fun _ => hS2) ?_
    clear hK K'
    show wpTill _ _ _ _ _ _ _ (a.put (some 31) (.slice pn ns.length cn)) w2
    generalize a.put (some 31) (.slice pn ns.length cn) = a at *
    have hF := hF2
    clear hF2
    refine take_fs' 11 [13] (oi := { dst := some 32, op := Op.build 25 #[(0, Operand.tmp 22), (1, Operand.tmp 24), (2, Operand.tmp 26), (3, Operand.tmp 28), (4, Operand.tmp 31)], type := 25, pos := "tree.go:160", after := #[{ on := 1, ground := Ground.data }, { on := 3, ground := Ground.data }, { on := 5, ground := Ground.data }, { on := 7, ground := Ground.data }, { on := 10, ground := Ground.data }], guard := none }) (d := 32) (v := .agg #[.int .i64 hk, .int .i64 hm, .int .i64 hf, .int .i64 ht, .slice pn ns.length cn, .slice none 0 0]) hF hQ hS2 rfl rfl (by decide) (by kernel_rfl) (by kernel_rfl) (by kernel_rfl) (by kernel_rfl) (fun a' hA => wanted_none rfl) (fun a' hA w' hw => by have e22 := hA.get 22 rfl; have e24 := hA.get 24 rfl; have e26 := hA.get 26 rfl; have e28 := hA.get 28 rfl; have e31 := hA.get 31 rfl; have ec : ∀ v, a'.eval (.const v) = v := fun _ => rfl; clear hA; generalize a'.eval = ρ at *; simp [go_sem, ec, e22, e24, e26, e28, e31]; try rfl) ?_
    clear hF
    intro a hF2
    refine HST _ _ wc.heap.size pn cn (hF2.get 0 rfl) (hF2.get 1 rfl) (hF2.get 4 rfl) (hF2.get 5 rfl) (hF2.get 6 rfl) (hF2.get 32 rfl) hF2.1 hF2.2.1 hzc (own_base (row_step hrow hb2) (Nat.le_refl _)) hin (fun q hq hn => ⟨Nat.le_trans hS1.size (hfr q hq), fun hqe => ?_⟩) hS2 _ (by kernel_rfl)
    have := hfr q hq
    omega
end Go.Proofs.Ytcijjeflojaocaa
