/-
  The document's Right: the region that asks a kid.
-/
import Derived.Test.YtcijjeflojaocaaBranchB
import Derived.Test.YtcijjeflojaocaaRightRef
namespace Go.Proofs.Ytcijjeflojaocaa
open Go.RowKit
set_option linter.unusedVariables false
set_option linter.unusedSimpArgs false

theorem Fs.wantedB {a : Act} {N : Nat} {L : List (Nat × Value)} (h : Fs a N L) {ops : Array Oper} {o : Oper} {j dj : Nat} {b : Bool} (hg : o.guard = some (j, b)) (hd : (ops[j]?).bind (·.dst) = some dj) (hN : dj < N) (hl : L.lookup dj = some (.bool b)) :
    Region.wanted o (yielded ops a.tmps) = true := by
  have h1 := h.get dj hl
  have h2 : a.tmps[dj]? = some (.bool b) := by
    have hlt : dj < a.tmps.size := by rw [h.1]; exact hN
    rw [Array.getElem?_eq_getElem hlt]
    simp only [Act.eval, Array.getD_eq_getD_getElem?, Array.getElem?_eq_getElem hlt, Option.getD_some] at h1
    rw [h1]
  unfold Region.wanted
  rw [hg]
  simp [yielded, hd, h2]
theorem Fs.unwanted {a : Act} {N : Nat} {L : List (Nat × Value)} (h : Fs a N L) {ops : Array Oper} {o : Oper} {j dj : Nat} {b : Bool} {v : Value} (hg : o.guard = some (j, b)) (hd : (ops[j]?).bind (·.dst) = some dj) (hN : dj < N) (hl : L.lookup dj = some v) (hv : v ≠ .bool b) :
    Region.wanted o (yielded ops a.tmps) = false := by
  have h1 := h.get dj hl
  have h2 : a.tmps[dj]? = some v := by
    have hlt : dj < a.tmps.size := by rw [h.1]; exact hN
    rw [Array.getElem?_eq_getElem hlt]
    simp only [Act.eval, Array.getD_eq_getD_getElem?, Array.getElem?_eq_getElem hlt, Option.getD_some] at h1
    rw [h1]
  unfold Region.wanted
  rw [hg]
  simp only [yielded, hd, h2, Option.bind_some]
  cases v <;> first | rfl | (rename_i q; cases q <;> cases b <;> first | rfl | exact absurd rfl hv)
section
variable {P : Program} {ops : Array Oper} {Q : Exit → Act → World → Prop} {S : World → Prop} {st : Nat}
theorem skip_fs (i : Nat) (U : List Nat) {oi : Oper} {d : Nat} {N : Nat} {L : List (Nat × Value)} {fuel : Nat} {listed : Array Bool} {a : Act} {w : World} (hF : Fs a N L) (hQ : ∀ c (a a' : Act) w, a'.defers = a.defers → Q (.panic c) a w → Q (.panic c) a' w) (hS : S w) (hi : ops[i]? = some oi) (hd : oi.dst = some d) (hdN : d < N)
    (hs : Region.noSelect ops = true) (hf : Region.free .any ops listed i = true) (hr : (Region.ready .any ops listed).contains i = true) (hU : (waitsB ops i listed U && U.contains st && !U.contains i) = true)
    (hw : ∀ a', Fs a' N L → Region.wanted oi (yielded ops a'.tmps) = false)
    (h : ∀ a', Fs a' N ((d, undef) :: L) → wpTill P ops Q S st fuel (listed.setIfInBounds i true) a' w) : wpTill P ops Q S st (fuel + 1) listed a w := by
  refine wpTill_take i U (v := undef) hi hs hf hr hU (fun c a w h => hQ c (a.put oi.dst undef) a w (by rw [hd]; rfl) h) (Or.inr ⟨hw a hF, rfl⟩) hS ?_
  rw [hd]
  exact h _ (hF.put hdN undef)
end
theorem wrap_nat {i : Nat} (h : i < 1000) : IntKind.i64.wrap (i : Int) = (i : Int) := by
  exact IntWalk.i64_in _ (by omega)
theorem look_skip {k j : Nat} {x : Value} {L : List (Nat × Value)} (h : k ≠ j) : List.lookup k ((j, x) :: L) = List.lookup k L := by
  have : (k == j) = false := by simp [h]
  simp only [List.lookup, this]
theorem ret_val {a b : Bool} (h : a = b) : Value.bool a = Value.bool b := by rw [h]
def opsR10 : Array Oper := #[{ dst := some 57, op := Op.move (Operand.tmp 3), type := 4, pos := "ref.go:70", after := #[], guard := none },
  { dst := some 58, op := Op.move (Operand.tmp 57), type := 4, pos := "ref.go:70", after := #[{ on := 0, ground := Ground.data }], guard := none },
  { dst := some 59, op := Op.load 25 (Operand.tmp 6), type := 25, pos := "ref.go:70", after := #[{ on := 1, ground := Ground.guard }], guard := some (1, true) },
  { dst := some 60, op := Op.call { callee := Callee.value (Operand.func 27), args := #[Operand.tmp 59], argTypes := #[25] }, type := 4, pos := "ref.go:70", after := #[{ on := 2, ground := Ground.data }, { on := 1, ground := Ground.chain }, { on := 1, ground := Ground.guard }], guard := some (1, true) },
  { dst := some 61, op := Op.pick (Operand.tmp 58) (Operand.tmp 60) (Operand.const (Value.bool false)), type := 4, pos := "ref.go:70", after := #[{ on := 1, ground := Ground.data }, { on := 3, ground := Ground.data }], guard := none },
  { dst := some 62, op := Op.move (Operand.tmp 61), type := 4, pos := "ref.go:70", after := #[{ on := 4, ground := Ground.data }, { on := 3, ground := Ground.chain }], guard := none },
  { dst := some 63, op := Op.fieldAddr 25 (Operand.tmp 6) 2, type := 0, pos := "ref.go:70", after := #[{ on := 5, ground := Ground.guard }], guard := some (5, true) },
  { dst := some 64, op := Op.load 3 (Operand.tmp 63), type := 3, pos := "ref.go:70", after := #[{ on := 6, ground := Ground.data }, { on := 5, ground := Ground.guard }], guard := some (5, true) },
  { dst := some 65, op := Op.fieldAddr 25 (Operand.tmp 1) 2, type := 0, pos := "ref.go:70", after := #[{ on := 5, ground := Ground.guard }], guard := some (5, true) },
  { dst := some 66, op := Op.load 3 (Operand.tmp 65), type := 3, pos := "ref.go:70", after := #[{ on := 8, ground := Ground.data }, { on := 5, ground := Ground.guard }], guard := some (5, true) },
  { dst := some 67, op := Op.binOp BinOp.geq 3 (Operand.tmp 64) (Operand.tmp 66) 3, type := 4, pos := "ref.go:70", after := #[{ on := 7, ground := Ground.data }, { on := 9, ground := Ground.data }, { on := 5, ground := Ground.guard }], guard := some (5, true) },
  { dst := some 68, op := Op.pick (Operand.tmp 62) (Operand.tmp 67) (Operand.const (Value.bool false)), type := 4, pos := "ref.go:70", after := #[{ on := 5, ground := Ground.data }, { on := 10, ground := Ground.data }], guard := none },
  { dst := some 69, op := Op.move (Operand.tmp 68), type := 4, pos := "ref.go:70", after := #[{ on := 11, ground := Ground.data }, { on := 5, ground := Ground.chain }], guard := none },
  { dst := some 70, op := Op.fieldAddr 25 (Operand.tmp 6) 3, type := 0, pos := "ref.go:70", after := #[{ on := 12, ground := Ground.guard }], guard := some (12, true) },
  { dst := some 71, op := Op.load 3 (Operand.tmp 70), type := 3, pos := "ref.go:70", after := #[{ on := 13, ground := Ground.data }, { on := 12, ground := Ground.guard }], guard := some (12, true) },
  { dst := some 72, op := Op.fieldAddr 25 (Operand.tmp 1) 3, type := 0, pos := "ref.go:70", after := #[{ on := 12, ground := Ground.guard }], guard := some (12, true) },
  { dst := some 73, op := Op.load 3 (Operand.tmp 72), type := 3, pos := "ref.go:70", after := #[{ on := 15, ground := Ground.data }, { on := 12, ground := Ground.guard }], guard := some (12, true) },
  { dst := some 74, op := Op.binOp BinOp.leq 3 (Operand.tmp 71) (Operand.tmp 73) 3, type := 4, pos := "ref.go:70", after := #[{ on := 14, ground := Ground.data }, { on := 16, ground := Ground.data }, { on := 12, ground := Ground.guard }], guard := some (12, true) },
  { dst := some 75, op := Op.pick (Operand.tmp 69) (Operand.tmp 74) (Operand.const (Value.bool false)), type := 4, pos := "ref.go:70", after := #[{ on := 12, ground := Ground.data }, { on := 17, ground := Ground.data }], guard := none },
  { dst := some 76, op := Op.move (Operand.tmp 75), type := 4, pos := "ref.go:70", after := #[{ on := 18, ground := Ground.data }, { on := 12, ground := Ground.chain }], guard := none },
  { dst := some 77, op := Op.move (Operand.tmp 5), type := 3, pos := "ref.go:70", after := #[{ on := 19, ground := Ground.guard }], guard := some (19, true) },
  { dst := some 78, op := Op.binOp BinOp.eql 3 (Operand.tmp 77) (Operand.const (Value.int IntKind.i64 0)) 3, type := 4, pos := "ref.go:70", after := #[{ on := 20, ground := Ground.data }, { on := 19, ground := Ground.guard }], guard := some (19, true) },
  { dst := some 79, op := Op.move (Operand.tmp 78), type := 4, pos := "ref.go:70", after := #[{ on := 21, ground := Ground.data }, { on := 19, ground := Ground.chain }, { on := 19, ground := Ground.guard }], guard := some (19, true) },
  { dst := some 80, op := Op.fieldAddr 25 (Operand.tmp 6) 2, type := 0, pos := "ref.go:70", after := #[{ on := 22, ground := Ground.guard }], guard := some (22, false) },
  { dst := some 81, op := Op.load 3 (Operand.tmp 80), type := 3, pos := "ref.go:70", after := #[{ on := 23, ground := Ground.data }, { on := 22, ground := Ground.guard }], guard := some (22, false) },
  { dst := some 82, op := Op.fieldAddr 25 (Operand.tmp 1) 5, type := 0, pos := "ref.go:70", after := #[{ on := 22, ground := Ground.guard }], guard := some (22, false) },
  { dst := some 83, op := Op.load 23 (Operand.tmp 82), type := 23, pos := "ref.go:70", after := #[{ on := 25, ground := Ground.data }, { on := 22, ground := Ground.guard }], guard := some (22, false) },
  { dst := some 84, op := Op.move (Operand.tmp 5), type := 3, pos := "ref.go:70", after := #[{ on := 22, ground := Ground.guard }], guard := some (22, false) },
  { dst := some 85, op := Op.binOp BinOp.sub 3 (Operand.tmp 84) (Operand.const (Value.int IntKind.i64 1)) 3, type := 3, pos := "ref.go:70", after := #[{ on := 27, ground := Ground.data }, { on := 22, ground := Ground.guard }], guard := some (22, false) },
  { dst := some 86, op := Op.indexAddr 23 (Operand.tmp 83) (Operand.tmp 85), type := 0, pos := "ref.go:70", after := #[{ on := 26, ground := Ground.data }, { on := 28, ground := Ground.data }, { on := 22, ground := Ground.guard }], guard := some (22, false) },
  { dst := some 87, op := Op.fieldAddr 25 (Operand.tmp 86) 3, type := 0, pos := "ref.go:70", after := #[{ on := 29, ground := Ground.data }, { on := 22, ground := Ground.guard }], guard := some (22, false) },
  { dst := some 88, op := Op.load 3 (Operand.tmp 87), type := 3, pos := "ref.go:70", after := #[{ on := 30, ground := Ground.data }, { on := 22, ground := Ground.guard }], guard := some (22, false) },
  { dst := some 89, op := Op.binOp BinOp.geq 3 (Operand.tmp 81) (Operand.tmp 88) 3, type := 4, pos := "ref.go:70", after := #[{ on := 24, ground := Ground.data }, { on := 31, ground := Ground.data }, { on := 22, ground := Ground.guard }], guard := some (22, false) },
  { dst := some 90, op := Op.pick (Operand.tmp 79) (Operand.const (Value.bool true)) (Operand.tmp 89), type := 4, pos := "ref.go:70", after := #[{ on := 22, ground := Ground.data }, { on := 32, ground := Ground.data }, { on := 19, ground := Ground.guard }], guard := some (19, true) },
  { dst := some 91, op := Op.pick (Operand.tmp 76) (Operand.tmp 90) (Operand.const (Value.bool false)), type := 4, pos := "ref.go:70", after := #[{ on := 19, ground := Ground.data }, { on := 33, ground := Ground.data }], guard := none },
  { dst := some 3, op := Op.assign (Operand.tmp 91), type := 4, pos := "ref.go:70", after := #[{ on := 34, ground := Ground.data }, { on := 22, ground := Ground.chain }, { on := 0, ground := Ground.phase }, { on := 1, ground := Ground.phase }, { on := 2, ground := Ground.phase }, { on := 3, ground := Ground.phase }, { on := 4, ground := Ground.phase }, { on := 5, ground := Ground.phase }, { on := 6, ground := Ground.phase }, { on := 7, ground := Ground.phase }, { on := 8, ground := Ground.phase }, { on := 9, ground := Ground.phase }, { on := 10, ground := Ground.phase }, { on := 11, ground := Ground.phase }, { on := 12, ground := Ground.phase }, { on := 13, ground := Ground.phase }, { on := 14, ground := Ground.phase }, { on := 15, ground := Ground.phase }, { on := 16, ground := Ground.phase }, { on := 17, ground := Ground.phase }, { on := 18, ground := Ground.phase }, { on := 19, ground := Ground.phase }, { on := 20, ground := Ground.phase }, { on := 21, ground := Ground.phase }, { on := 22, ground := Ground.phase }, { on := 23, ground := Ground.phase }, { on := 24, ground := Ground.phase }, { on := 25, ground := Ground.phase }, { on := 26, ground := Ground.phase }, { on := 27, ground := Ground.phase }, { on := 28, ground := Ground.phase }, { on := 29, ground := Ground.phase }, { on := 30, ground := Ground.phase }, { on := 31, ground := Ground.phase }, { on := 32, ground := Ground.phase }, { on := 33, ground := Ground.phase }, { on := 34, ground := Ground.phase }], guard := none }]

def kidOk (ok rv : Bool) (f t xf xt : Int) (i : Nat) (pt : Int) : Bool := ok && (rv && (decide (f ≤ xf) && (decide (xt ≤ t) && (decide (i = 0) || decide (pt ≤ xf)))))
structure R10 (w : World) (bb kb b1 off kn kc i : Nat) (f t xk xm xf xt : Int) (xnp : Option Addr) (xnn xnc : Nat) (xkp : Option Addr) (xkn xkc : Nat) (pt : Int) (ok rv : Bool) : Prop where
  HS : ∀ W, Below w.heap.size w W → W.cell? ⟨bb, 2, none⟩ = some (.int .i64 f) ∧ W.cell? ⟨bb, 3, none⟩ = some (.int .i64 t) ∧ W.cell? ⟨bb, 5, none⟩ = some (.slice (some ⟨b1, off, none⟩) kn kc) ∧ W.cell? ⟨kb, 0, none⟩ = some (.int .i64 xk) ∧ W.cell? ⟨kb, 1, none⟩ = some (.int .i64 xm) ∧ W.cell? ⟨kb, 2, none⟩ = some (.int .i64 xf) ∧ W.cell? ⟨kb, 3, none⟩ = some (.int .i64 xt) ∧ W.cell? ⟨kb, 4, none⟩ = some (.slice xnp xnn xnc) ∧ W.cell? ⟨kb, 5, none⟩ = some (.slice xkp xkn xkc)
  HP : ∀ i1, i = i1 + 1 → ∀ W, Below w.heap.size w W → W.cell? ⟨b1, off + i1 * 6 + 3, none⟩ = some (.int .i64 pt)
  HX : ∀ W, Below w.heap.size w W → Calls Try.prog 27 #[.agg #[.int .i64 xk, .int .i64 xm, .int .i64 xf, .int .i64 xt, .slice xnp xnn xnc, .slice xkp xkn xkc]] W fun e w' => e = .returned (.bool rv) ∧ Below W.heap.size W w'
  hi : i < kn
  hk : kn ≤ 1000

set_option maxRecDepth 20000 in
set_option maxHeartbeats 4000000 in
theorem right10_0 {Q : Exit → Act → World → Prop} {a : Act} {w : World} {bb kb b1 off kn kc i : Nat} {f t xk xm xf xt : Int} {xnp : Option Addr} {xnn xnc : Nat} {xkp : Option Addr} {xkn xkc : Nat} {pt : Int} {rv : Bool} {Lx : List (Nat × Value)}
    (h : R10 w bb kb b1 off kn kc i f t xk xm xf xt xnp xnn xnc xkp xkn xkc pt false rv)
    (hF : Fs a 93 ([(1, .pointer (some ⟨bb, 0, none⟩)), (3, .bool false), (5, .int .i64 (i : Int)), (6, .pointer (some ⟨kb, 0, none⟩))] ++ Lx))
    (hLx : ∀ k v, Lx.lookup k = some v → k < 57 ∨ 92 ≤ k)
    (hQ : ∀ c (a a' : Act) w, a'.defers = a.defers → Q (.panic c) a w → Q (.panic c) a' w)
    (H : ∀ a' w', Fs a' 93 [(1, .pointer (some ⟨bb, 0, none⟩)), (3, .bool (kidOk false rv f t xf xt i pt)), (5, .int .i64 (i : Int)), (6, .pointer (some ⟨kb, 0, none⟩))] → (∀ k v, k ≠ 1 → k ≠ 3 → k ≠ 5 → k ≠ 6 → Lx.lookup k = some v → a'.eval (.tmp k) = v) → Below w.heap.size w w' → Q .normal a' w') :
    (Code.region 10 opsR10 true).wp Try.prog Q a w := by
    have hres : kidOk false rv f t xf xt i pt = false := by simp [kidOk]
    have HS := h.HS
    have HX := h.HX
    refine wp_region_till (fun W => Below w.heap.size w W) 35 (by kernel_rfl) ?_
    have hS : Below w.heap.size w w.drew := (Below.refl w.heap.size w).drew
    obtain ⟨wc, hwc⟩ : ∃ wc, wc = w.drew := ⟨_, rfl⟩
    rw [← hwc] at hS ⊢
    clear hwc
    refine take_fs' 0 [35] (oi := { dst := some 57, op := Op.move (Operand.tmp 3), type := 4, pos := "ref.go:70", after := #[], guard := none }) (d := 57) (v := .bool false) hF hQ hS rfl rfl (by decide) (by kernel_rfl) (by kernel_rfl) (by kernel_rfl) (by kernel_rfl) (fun a' hA => wanted_none rfl) (run_move_fs rfl rfl) ?_
    clear hF
    intro a hF
    refine take_fs' 1 [35] (oi := { dst := some 58, op := Op.move (Operand.tmp 57), type := 4, pos := "ref.go:70", after := #[{ on := 0, ground := Ground.data }], guard := none }) (d := 58) (v := .bool false) hF hQ hS rfl rfl (by decide) (by kernel_rfl) (by kernel_rfl) (by kernel_rfl) (by kernel_rfl) (fun a' hA => wanted_none rfl) (run_move_fs rfl rfl) ?_
    clear hF
    intro a hF
    refine skip_fs 2 [35] (oi := { dst := some 59, op := Op.load 25 (Operand.tmp 6), type := 25, pos := "ref.go:70", after := #[{ on := 1, ground := Ground.guard }], guard := some (1, true) }) (d := 59) hF hQ hS rfl rfl (by decide) (by kernel_rfl) (by kernel_rfl) (by kernel_rfl) (by kernel_rfl) (fun a' hA => hA.unwanted (j := 1) (dj := 58) (b := true) (v := .bool false) rfl (by kernel_rfl) (by decide) rfl (by intro h; cases h)) ?_
    clear hF
    intro a hF
    refine skip_fs 3 [35] (oi := { dst := some 60, op := Op.call { callee := Callee.value (Operand.func 27), args := #[Operand.tmp 59], argTypes := #[25] }, type := 4, pos := "ref.go:70", after := #[{ on := 2, ground := Ground.data }, { on := 1, ground := Ground.chain }, { on := 1, ground := Ground.guard }], guard := some (1, true) }) (d := 60) hF hQ hS rfl rfl (by decide) (by kernel_rfl) (by kernel_rfl) (by kernel_rfl) (by kernel_rfl) (fun a' hA => hA.unwanted (j := 1) (dj := 58) (b := true) (v := .bool false) rfl (by kernel_rfl) (by decide) rfl (by intro h; cases h)) ?_
    clear hF
    intro a hF
    refine take_fs' 4 [35] (oi := { dst := some 61, op := Op.pick (Operand.tmp 58) (Operand.tmp 60) (Operand.const (Value.bool false)), type := 4, pos := "ref.go:70", after := #[{ on := 1, ground := Ground.data }, { on := 3, ground := Ground.data }], guard := none }) (d := 61) (v := .bool false) hF hQ hS rfl rfl (by decide) (by kernel_rfl) (by kernel_rfl) (by kernel_rfl) (by kernel_rfl) (fun a' hA => wanted_none rfl) (fun a' hA w' hw => by have e58 := hA.get 58 rfl; have e60 := hA.get 60 rfl; have ec : ∀ v, a'.eval (.const v) = v := fun _ => rfl; clear hA; generalize a'.eval = ρ at *; simp [go_sem, ec, e58, e60]; try rfl) ?_
    clear hF
    intro a hF
    refine take_fs' 5 [35] (oi := { dst := some 62, op := Op.move (Operand.tmp 61), type := 4, pos := "ref.go:70", after := #[{ on := 4, ground := Ground.data }, { on := 3, ground := Ground.chain }], guard := none }) (d := 62) (v := .bool false) hF hQ hS rfl rfl (by decide) (by kernel_rfl) (by kernel_rfl) (by kernel_rfl) (by kernel_rfl) (fun a' hA => wanted_none rfl) (run_move_fs rfl rfl) ?_
    clear hF
    intro a hF
    refine skip_fs 6 [35] (oi := { dst := some 63, op := Op.fieldAddr 25 (Operand.tmp 6) 2, type := 0, pos := "ref.go:70", after := #[{ on := 5, ground := Ground.guard }], guard := some (5, true) }) (d := 63) hF hQ hS rfl rfl (by decide) (by kernel_rfl) (by kernel_rfl) (by kernel_rfl) (by kernel_rfl) (fun a' hA => hA.unwanted (j := 5) (dj := 62) (b := true) (v := .bool false) rfl (by kernel_rfl) (by decide) rfl (by intro h; cases h)) ?_
    clear hF
    intro a hF
    refine skip_fs 7 [35] (oi := { dst := some 64, op := Op.load 3 (Operand.tmp 63), type := 3, pos := "ref.go:70", after := #[{ on := 6, ground := Ground.data }, { on := 5, ground := Ground.guard }], guard := some (5, true) }) (d := 64) hF hQ hS rfl rfl (by decide) (by kernel_rfl) (by kernel_rfl) (by kernel_rfl) (by kernel_rfl) (fun a' hA => hA.unwanted (j := 5) (dj := 62) (b := true) (v := .bool false) rfl (by kernel_rfl) (by decide) rfl (by intro h; cases h)) ?_
    clear hF
    intro a hF
    refine skip_fs 8 [35] (oi := { dst := some 65, op := Op.fieldAddr 25 (Operand.tmp 1) 2, type := 0, pos := "ref.go:70", after := #[{ on := 5, ground := Ground.guard }], guard := some (5, true) }) (d := 65) hF hQ hS rfl rfl (by decide) (by kernel_rfl) (by kernel_rfl) (by kernel_rfl) (by kernel_rfl) (fun a' hA => hA.unwanted (j := 5) (dj := 62) (b := true) (v := .bool false) rfl (by kernel_rfl) (by decide) rfl (by intro h; cases h)) ?_
    clear hF
    intro a hF
    refine skip_fs 9 [35] (oi := { dst := some 66, op := Op.load 3 (Operand.tmp 65), type := 3, pos := "ref.go:70", after := #[{ on := 8, ground := Ground.data }, { on := 5, ground := Ground.guard }], guard := some (5, true) }) (d := 66) hF hQ hS rfl rfl (by decide) (by kernel_rfl) (by kernel_rfl) (by kernel_rfl) (by kernel_rfl) (fun a' hA => hA.unwanted (j := 5) (dj := 62) (b := true) (v := .bool false) rfl (by kernel_rfl) (by decide) rfl (by intro h; cases h)) ?_
    clear hF
    intro a hF
    refine skip_fs 10 [35] (oi := { dst := some 67, op := Op.binOp BinOp.geq 3 (Operand.tmp 64) (Operand.tmp 66) 3, type := 4, pos := "ref.go:70", after := #[{ on := 7, ground := Ground.data }, { on := 9, ground := Ground.data }, { on := 5, ground := Ground.guard }], guard := some (5, true) }) (d := 67) hF hQ hS rfl rfl (by decide) (by kernel_rfl) (by kernel_rfl) (by kernel_rfl) (by kernel_rfl) (fun a' hA => hA.unwanted (j := 5) (dj := 62) (b := true) (v := .bool false) rfl (by kernel_rfl) (by decide) rfl (by intro h; cases h)) ?_
    clear hF
    intro a hF
    refine take_fs' 11 [35] (oi := { dst := some 68, op := Op.pick (Operand.tmp 62) (Operand.tmp 67) (Operand.const (Value.bool false)), type := 4, pos := "ref.go:70", after := #[{ on := 5, ground := Ground.data }, { on := 10, ground := Ground.data }], guard := none }) (d := 68) (v := .bool false) hF hQ hS rfl rfl (by decide) (by kernel_rfl) (by kernel_rfl) (by kernel_rfl) (by kernel_rfl) (fun a' hA => wanted_none rfl) (fun a' hA w' hw => by have e62 := hA.get 62 rfl; have e67 := hA.get 67 rfl; have ec : ∀ v, a'.eval (.const v) = v := fun _ => rfl; clear hA; generalize a'.eval = ρ at *; simp [go_sem, ec, e62, e67]; try rfl) ?_
    clear hF
    intro a hF
    refine take_fs' 12 [35] (oi := { dst := some 69, op := Op.move (Operand.tmp 68), type := 4, pos := "ref.go:70", after := #[{ on := 11, ground := Ground.data }, { on := 5, ground := Ground.chain }], guard := none }) (d := 69) (v := .bool false) hF hQ hS rfl rfl (by decide) (by kernel_rfl) (by kernel_rfl) (by kernel_rfl) (by kernel_rfl) (fun a' hA => wanted_none rfl) (run_move_fs rfl rfl) ?_
    clear hF
    intro a hF
    refine skip_fs 13 [35] (oi := { dst := some 70, op := Op.fieldAddr 25 (Operand.tmp 6) 3, type := 0, pos := "ref.go:70", after := #[{ on := 12, ground := Ground.guard }], guard := some (12, true) }) (d := 70) hF hQ hS rfl rfl (by decide) (by kernel_rfl) (by kernel_rfl) (by kernel_rfl) (by kernel_rfl) (fun a' hA => hA.unwanted (j := 12) (dj := 69) (b := true) (v := .bool false) rfl (by kernel_rfl) (by decide) rfl (by intro h; cases h)) ?_
    clear hF
    intro a hF
    refine skip_fs 14 [35] (oi := { dst := some 71, op := Op.load 3 (Operand.tmp 70), type := 3, pos := "ref.go:70", after := #[{ on := 13, ground := Ground.data }, { on := 12, ground := Ground.guard }], guard := some (12, true) }) (d := 71) hF hQ hS rfl rfl (by decide) (by kernel_rfl) (by kernel_rfl) (by kernel_rfl) (by kernel_rfl) (fun a' hA => hA.unwanted (j := 12) (dj := 69) (b := true) (v := .bool false) rfl (by kernel_rfl) (by decide) rfl (by intro h; cases h)) ?_
    clear hF
    intro a hF
    refine skip_fs 15 [35] (oi := { dst := some 72, op := Op.fieldAddr 25 (Operand.tmp 1) 3, type := 0, pos := "ref.go:70", after := #[{ on := 12, ground := Ground.guard }], guard := some (12, true) }) (d := 72) hF hQ hS rfl rfl (by decide) (by kernel_rfl) (by kernel_rfl) (by kernel_rfl) (by kernel_rfl) (fun a' hA => hA.unwanted (j := 12) (dj := 69) (b := true) (v := .bool false) rfl (by kernel_rfl) (by decide) rfl (by intro h; cases h)) ?_
    clear hF
    intro a hF
    refine skip_fs 16 [35] (oi := { dst := some 73, op := Op.load 3 (Operand.tmp 72), type := 3, pos := "ref.go:70", after := #[{ on := 15, ground := Ground.data }, { on := 12, ground := Ground.guard }], guard := some (12, true) }) (d := 73) hF hQ hS rfl rfl (by decide) (by kernel_rfl) (by kernel_rfl) (by kernel_rfl) (by kernel_rfl) (fun a' hA => hA.unwanted (j := 12) (dj := 69) (b := true) (v := .bool false) rfl (by kernel_rfl) (by decide) rfl (by intro h; cases h)) ?_
    clear hF
    intro a hF
    refine skip_fs 17 [35] (oi := { dst := some 74, op := Op.binOp BinOp.leq 3 (Operand.tmp 71) (Operand.tmp 73) 3, type := 4, pos := "ref.go:70", after := #[{ on := 14, ground := Ground.data }, { on := 16, ground := Ground.data }, { on := 12, ground := Ground.guard }], guard := some (12, true) }) (d := 74) hF hQ hS rfl rfl (by decide) (by kernel_rfl) (by kernel_rfl) (by kernel_rfl) (by kernel_rfl) (fun a' hA => hA.unwanted (j := 12) (dj := 69) (b := true) (v := .bool false) rfl (by kernel_rfl) (by decide) rfl (by intro h; cases h)) ?_
    clear hF
    intro a hF
    refine take_fs' 18 [35] (oi := { dst := some 75, op := Op.pick (Operand.tmp 69) (Operand.tmp 74) (Operand.const (Value.bool false)), type := 4, pos := "ref.go:70", after := #[{ on := 12, ground := Ground.data }, { on := 17, ground := Ground.data }], guard := none }) (d := 75) (v := .bool false) hF hQ hS rfl rfl (by decide) (by kernel_rfl) (by kernel_rfl) (by kernel_rfl) (by kernel_rfl) (fun a' hA => wanted_none rfl) (fun a' hA w' hw => by have e69 := hA.get 69 rfl; have e74 := hA.get 74 rfl; have ec : ∀ v, a'.eval (.const v) = v := fun _ => rfl; clear hA; generalize a'.eval = ρ at *; simp [go_sem, ec, e69, e74]; try rfl) ?_
    clear hF
    intro a hF
    refine take_fs' 19 [35] (oi := { dst := some 76, op := Op.move (Operand.tmp 75), type := 4, pos := "ref.go:70", after := #[{ on := 18, ground := Ground.data }, { on := 12, ground := Ground.chain }], guard := none }) (d := 76) (v := .bool false) hF hQ hS rfl rfl (by decide) (by kernel_rfl) (by kernel_rfl) (by kernel_rfl) (by kernel_rfl) (fun a' hA => wanted_none rfl) (run_move_fs rfl rfl) ?_
    clear hF
    intro a hF
    refine skip_fs 20 [35] (oi := { dst := some 77, op := Op.move (Operand.tmp 5), type := 3, pos := "ref.go:70", after := #[{ on := 19, ground := Ground.guard }], guard := some (19, true) }) (d := 77) hF hQ hS rfl rfl (by decide) (by kernel_rfl) (by kernel_rfl) (by kernel_rfl) (by kernel_rfl) (fun a' hA => hA.unwanted (j := 19) (dj := 76) (b := true) (v := .bool false) rfl (by kernel_rfl) (by decide) rfl (by intro h; cases h)) ?_
    clear hF
    intro a hF
    refine skip_fs 21 [35] (oi := { dst := some 78, op := Op.binOp BinOp.eql 3 (Operand.tmp 77) (Operand.const (Value.int IntKind.i64 0)) 3, type := 4, pos := "ref.go:70", after := #[{ on := 20, ground := Ground.data }, { on := 19, ground := Ground.guard }], guard := some (19, true) }) (d := 78) hF hQ hS rfl rfl (by decide) (by kernel_rfl) (by kernel_rfl) (by kernel_rfl) (by kernel_rfl) (fun a' hA => hA.unwanted (j := 19) (dj := 76) (b := true) (v := .bool false) rfl (by kernel_rfl) (by decide) rfl (by intro h; cases h)) ?_
    clear hF
    intro a hF
    refine skip_fs 22 [35] (oi := { dst := some 79, op := Op.move (Operand.tmp 78), type := 4, pos := "ref.go:70", after := #[{ on := 21, ground := Ground.data }, { on := 19, ground := Ground.chain }, { on := 19, ground := Ground.guard }], guard := some (19, true) }) (d := 79) hF hQ hS rfl rfl (by decide) (by kernel_rfl) (by kernel_rfl) (by kernel_rfl) (by kernel_rfl) (fun a' hA => hA.unwanted (j := 19) (dj := 76) (b := true) (v := .bool false) rfl (by kernel_rfl) (by decide) rfl (by intro h; cases h)) ?_
    clear hF
    intro a hF
    refine skip_fs 23 [35] (oi := { dst := some 80, op := Op.fieldAddr 25 (Operand.tmp 6) 2, type := 0, pos := "ref.go:70", after := #[{ on := 22, ground := Ground.guard }], guard := some (22, false) }) (d := 80) hF hQ hS rfl rfl (by decide) (by kernel_rfl) (by kernel_rfl) (by kernel_rfl) (by kernel_rfl) (fun a' hA => hA.unwanted (j := 22) (dj := 79) (b := false) (v := undef) rfl (by kernel_rfl) (by decide) rfl (by intro h; cases h)) ?_
    clear hF
    intro a hF
    refine skip_fs 24 [35] (oi := { dst := some 81, op := Op.load 3 (Operand.tmp 80), type := 3, pos := "ref.go:70", after := #[{ on := 23, ground := Ground.data }, { on := 22, ground := Ground.guard }], guard := some (22, false) }) (d := 81) hF hQ hS rfl rfl (by decide) (by kernel_rfl) (by kernel_rfl) (by kernel_rfl) (by kernel_rfl) (fun a' hA => hA.unwanted (j := 22) (dj := 79) (b := false) (v := undef) rfl (by kernel_rfl) (by decide) rfl (by intro h; cases h)) ?_
    clear hF
    intro a hF
    refine skip_fs 25 [35] (oi := { dst := some 82, op := Op.fieldAddr 25 (Operand.tmp 1) 5, type := 0, pos := "ref.go:70", after := #[{ on := 22, ground := Ground.guard }], guard := some (22, false) }) (d := 82) hF hQ hS rfl rfl (by decide) (by kernel_rfl) (by kernel_rfl) (by kernel_rfl) (by kernel_rfl) (fun a' hA => hA.unwanted (j := 22) (dj := 79) (b := false) (v := undef) rfl (by kernel_rfl) (by decide) rfl (by intro h; cases h)) ?_
    clear hF
    intro a hF
    refine skip_fs 26 [35] (oi := { dst := some 83, op := Op.load 23 (Operand.tmp 82), type := 23, pos := "ref.go:70", after := #[{ on := 25, ground := Ground.data }, { on := 22, ground := Ground.guard }], guard := some (22, false) }) (d := 83) hF hQ hS rfl rfl (by decide) (by kernel_rfl) (by kernel_rfl) (by kernel_rfl) (by kernel_rfl) (fun a' hA => hA.unwanted (j := 22) (dj := 79) (b := false) (v := undef) rfl (by kernel_rfl) (by decide) rfl (by intro h; cases h)) ?_
    clear hF
    intro a hF
    refine skip_fs 27 [35] (oi := { dst := some 84, op := Op.move (Operand.tmp 5), type := 3, pos := "ref.go:70", after := #[{ on := 22, ground := Ground.guard }], guard := some (22, false) }) (d := 84) hF hQ hS rfl rfl (by decide) (by kernel_rfl) (by kernel_rfl) (by kernel_rfl) (by kernel_rfl) (fun a' hA => hA.unwanted (j := 22) (dj := 79) (b := false) (v := undef) rfl (by kernel_rfl) (by decide) rfl (by intro h; cases h)) ?_
    clear hF
    intro a hF
    refine skip_fs 28 [35] (oi := { dst := some 85, op := Op.binOp BinOp.sub 3 (Operand.tmp 84) (Operand.const (Value.int IntKind.i64 1)) 3, type := 3, pos := "ref.go:70", after := #[{ on := 27, ground := Ground.data }, { on := 22, ground := Ground.guard }], guard := some (22, false) }) (d := 85) hF hQ hS rfl rfl (by decide) (by kernel_rfl) (by kernel_rfl) (by kernel_rfl) (by kernel_rfl) (fun a' hA => hA.unwanted (j := 22) (dj := 79) (b := false) (v := undef) rfl (by kernel_rfl) (by decide) rfl (by intro h; cases h)) ?_
    clear hF
    intro a hF
    refine skip_fs 29 [35] (oi := { dst := some 86, op := Op.indexAddr 23 (Operand.tmp 83) (Operand.tmp 85), type := 0, pos := "ref.go:70", after := #[{ on := 26, ground := Ground.data }, { on := 28, ground := Ground.data }, { on := 22, ground := Ground.guard }], guard := some (22, false) }) (d := 86) hF hQ hS rfl rfl (by decide) (by kernel_rfl) (by kernel_rfl) (by kernel_rfl) (by kernel_rfl) (fun a' hA => hA.unwanted (j := 22) (dj := 79) (b := false) (v := undef) rfl (by kernel_rfl) (by decide) rfl (by intro h; cases h)) ?_
    clear hF
    intro a hF
    refine skip_fs 30 [35] (oi := { dst := some 87, op := Op.fieldAddr 25 (Operand.tmp 86) 3, type := 0, pos := "ref.go:70", after := #[{ on := 29, ground := Ground.data }, { on := 22, ground := Ground.guard }], guard := some (22, false) }) (d := 87) hF hQ hS rfl rfl (by decide) (by kernel_rfl) (by kernel_rfl) (by kernel_rfl) (by kernel_rfl) (fun a' hA => hA.unwanted (j := 22) (dj := 79) (b := false) (v := undef) rfl (by kernel_rfl) (by decide) rfl (by intro h; cases h)) ?_
    clear hF
    intro a hF
    refine skip_fs 31 [35] (oi := { dst := some 88, op := Op.load 3 (Operand.tmp 87), type := 3, pos := "ref.go:70", after := #[{ on := 30, ground := Ground.data }, { on := 22, ground := Ground.guard }], guard := some (22, false) }) (d := 88) hF hQ hS rfl rfl (by decide) (by kernel_rfl) (by kernel_rfl) (by kernel_rfl) (by kernel_rfl) (fun a' hA => hA.unwanted (j := 22) (dj := 79) (b := false) (v := undef) rfl (by kernel_rfl) (by decide) rfl (by intro h; cases h)) ?_
    clear hF
    intro a hF
    refine skip_fs 32 [35] (oi := { dst := some 89, op := Op.binOp BinOp.geq 3 (Operand.tmp 81) (Operand.tmp 88) 3, type := 4, pos := "ref.go:70", after := #[{ on := 24, ground := Ground.data }, { on := 31, ground := Ground.data }, { on := 22, ground := Ground.guard }], guard := some (22, false) }) (d := 89) hF hQ hS rfl rfl (by decide) (by kernel_rfl) (by kernel_rfl) (by kernel_rfl) (by kernel_rfl) (fun a' hA => hA.unwanted (j := 22) (dj := 79) (b := false) (v := undef) rfl (by kernel_rfl) (by decide) rfl (by intro h; cases h)) ?_
    clear hF
    intro a hF
    refine skip_fs 33 [35] (oi := { dst := some 90, op := Op.pick (Operand.tmp 79) (Operand.const (Value.bool true)) (Operand.tmp 89), type := 4, pos := "ref.go:70", after := #[{ on := 22, ground := Ground.data }, { on := 32, ground := Ground.data }, { on := 19, ground := Ground.guard }], guard := some (19, true) }) (d := 90) hF hQ hS rfl rfl (by decide) (by kernel_rfl) (by kernel_rfl) (by kernel_rfl) (by kernel_rfl) (fun a' hA => hA.unwanted (j := 19) (dj := 76) (b := true) (v := .bool false) rfl (by kernel_rfl) (by decide) rfl (by intro h; cases h)) ?_
    clear hF
    intro a hF
    refine take_fs' 34 [35] (oi := { dst := some 91, op := Op.pick (Operand.tmp 76) (Operand.tmp 90) (Operand.const (Value.bool false)), type := 4, pos := "ref.go:70", after := #[{ on := 19, ground := Ground.data }, { on := 33, ground := Ground.data }], guard := none }) (d := 91) (v := .bool false) hF hQ hS rfl rfl (by decide) (by kernel_rfl) (by kernel_rfl) (by kernel_rfl) (by kernel_rfl) (fun a' hA => wanted_none rfl) (fun a' hA w' hw => by have e76 := hA.get 76 rfl; have e90 := hA.get 90 rfl; have ec : ∀ v, a'.eval (.const v) = v := fun _ => rfl; clear hA; generalize a'.eval = ρ at *; simp [go_sem, ec, e76, e90]; try rfl) ?_
    clear hF
    intro a hF
    refine last_fs 35 (oi := { dst := some 3, op := Op.assign (Operand.tmp 91), type := 4, pos := "ref.go:70", after := #[{ on := 34, ground := Ground.data }, { on := 22, ground := Ground.chain }, { on := 0, ground := Ground.phase }, { on := 1, ground := Ground.phase }, { on := 2, ground := Ground.phase }, { on := 3, ground := Ground.phase }, { on := 4, ground := Ground.phase }, { on := 5, ground := Ground.phase }, { on := 6, ground := Ground.phase }, { on := 7, ground := Ground.phase }, { on := 8, ground := Ground.phase }, { on := 9, ground := Ground.phase }, { on := 10, ground := Ground.phase }, { on := 11, ground := Ground.phase }, { on := 12, ground := Ground.phase }, { on := 13, ground := Ground.phase }, { on := 14, ground := Ground.phase }, { on := 15, ground := Ground.phase }, { on := 16, ground := Ground.phase }, { on := 17, ground := Ground.phase }, { on := 18, ground := Ground.phase }, { on := 19, ground := Ground.phase }, { on := 20, ground := Ground.phase }, { on := 21, ground := Ground.phase }, { on := 22, ground := Ground.phase }, { on := 23, ground := Ground.phase }, { on := 24, ground := Ground.phase }, { on := 25, ground := Ground.phase }, { on := 26, ground := Ground.phase }, { on := 27, ground := Ground.phase }, { on := 28, ground := Ground.phase }, { on := 29, ground := Ground.phase }, { on := 30, ground := Ground.phase }, { on := 31, ground := Ground.phase }, { on := 32, ground := Ground.phase }, { on := 33, ground := Ground.phase }, { on := 34, ground := Ground.phase }], guard := none }) (d := 3) (v := .bool false) hF rfl rfl (by decide) (by kernel_rfl) (by kernel_rfl) (by kernel_rfl) (fun a' hA => wanted_none rfl) (fun a' hA => by rw [BigFrame.run_assign (.tmp 91) rfl, hA.get 91 rfl]) ?_
    intro a' hF'
    exact H a' _ (by rw [hres]; exact Fs.of hF'.1 hF'.2.1 (by simp only [List.forall_mem_cons]; exact ⟨hF'.get 1 rfl, hF'.get 3 rfl, hF'.get 5 rfl, hF'.get 6 rfl, by simp⟩)) (fun k v h1 h3 h5 h6 hk => by
      have hkk := hLx k v hk
      refine hF'.2.2 k v ?_
      simp only [List.cons_append, List.nil_append]
      rw [look_skip (by omega)]
      rw [look_skip (by omega)]
      rw [look_skip (by omega)]
      rw [look_skip (by omega)]
      rw [look_skip (by omega)]
      rw [look_skip (by omega)]
      rw [look_skip (by omega)]
      rw [look_skip (by omega)]
      rw [look_skip (by omega)]
      rw [look_skip (by omega)]
      rw [look_skip (by omega)]
      rw [look_skip (by omega)]
      rw [look_skip (by omega)]
      rw [look_skip (by omega)]
      rw [look_skip (by omega)]
      rw [look_skip (by omega)]
      rw [look_skip (by omega)]
      rw [look_skip (by omega)]
      rw [look_skip (by omega)]
      rw [look_skip (by omega)]
      rw [look_skip (by omega)]
      rw [look_skip (by omega)]
      rw [look_skip (by omega)]
      rw [look_skip (by omega)]
      rw [look_skip (by omega)]
      rw [look_skip (by omega)]
      rw [look_skip (by omega)]
      rw [look_skip (by omega)]
      rw [look_skip (by omega)]
      rw [look_skip (by omega)]
      rw [look_skip (by omega)]
      rw [look_skip (by omega)]
      rw [look_skip (by omega)]
      rw [look_skip (by omega)]
      rw [look_skip (by omega)]
      rw [look_skip (by omega)]
      rw [look_skip (by omega)]
      rw [look_skip (by omega)]
      rw [look_skip (by omega)]
      rw [look_skip (by omega)]
      exact hk) hS

set_option maxRecDepth 20000 in
set_option maxHeartbeats 4000000 in
theorem right10_1 {Q : Exit → Act → World → Prop} {a : Act} {w : World} {bb kb b1 off kn kc i : Nat} {f t xk xm xf xt : Int} {xnp : Option Addr} {xnn xnc : Nat} {xkp : Option Addr} {xkn xkc : Nat} {pt : Int} {rv : Bool} {Lx : List (Nat × Value)}
    (h : R10 w bb kb b1 off kn kc i f t xk xm xf xt xnp xnn xnc xkp xkn xkc pt true rv) (hrv : rv = false)
    (hF : Fs a 93 ([(1, .pointer (some ⟨bb, 0, none⟩)), (3, .bool true), (5, .int .i64 (i : Int)), (6, .pointer (some ⟨kb, 0, none⟩))] ++ Lx))
    (hLx : ∀ k v, Lx.lookup k = some v → k < 57 ∨ 92 ≤ k)
    (hQ : ∀ c (a a' : Act) w, a'.defers = a.defers → Q (.panic c) a w → Q (.panic c) a' w)
    (H : ∀ a' w', Fs a' 93 [(1, .pointer (some ⟨bb, 0, none⟩)), (3, .bool (kidOk true rv f t xf xt i pt)), (5, .int .i64 (i : Int)), (6, .pointer (some ⟨kb, 0, none⟩))] → (∀ k v, k ≠ 1 → k ≠ 3 → k ≠ 5 → k ≠ 6 → Lx.lookup k = some v → a'.eval (.tmp k) = v) → Below w.heap.size w w' → Q .normal a' w') :
    (Code.region 10 opsR10 true).wp Try.prog Q a w := by
    have hres : kidOk true rv f t xf xt i pt = false := by simp [kidOk, hrv]
    have HS := h.HS
    have HX := h.HX
    refine wp_region_till (fun W => Below w.heap.size w W) 35 (by kernel_rfl) ?_
    have hS : Below w.heap.size w w.drew := (Below.refl w.heap.size w).drew
    obtain ⟨wc, hwc⟩ : ∃ wc, wc = w.drew := ⟨_, rfl⟩
    rw [← hwc] at hS ⊢
    clear hwc
    refine take_fs' 0 [35] (oi := { dst := some 57, op := Op.move (Operand.tmp 3), type := 4, pos := "ref.go:70", after := #[], guard := none }) (d := 57) (v := .bool true) hF hQ hS rfl rfl (by decide) (by kernel_rfl) (by kernel_rfl) (by kernel_rfl) (by kernel_rfl) (fun a' hA => wanted_none rfl) (run_move_fs rfl rfl) ?_
    clear hF
    intro a hF
    refine take_fs' 1 [35] (oi := { dst := some 58, op := Op.move (Operand.tmp 57), type := 4, pos := "ref.go:70", after := #[{ on := 0, ground := Ground.data }], guard := none }) (d := 58) (v := .bool true) hF hQ hS rfl rfl (by decide) (by kernel_rfl) (by kernel_rfl) (by kernel_rfl) (by kernel_rfl) (fun a' hA => wanted_none rfl) (run_move_fs rfl rfl) ?_
    clear hF
    intro a hF
    refine take_fs' 2 [35] (oi := { dst := some 59, op := Op.load 25 (Operand.tmp 6), type := 25, pos := "ref.go:70", after := #[{ on := 1, ground := Ground.guard }], guard := some (1, true) }) (d := 59) (v := .agg #[.int .i64 xk, .int .i64 xm, .int .i64 xf, .int .i64 xt, .slice xnp xnn xnc, .slice xkp xkn xkc]) hF hQ hS rfl rfl (by decide) (by kernel_rfl) (by kernel_rfl) (by kernel_rfl) (by kernel_rfl) (fun a' hA => hA.wantedB (j := 1) (dj := 58) (b := true) rfl (by kernel_rfl) (by decide) rfl) (fun a' hA w' hw => by have e6 := hA.get 6 rfl; have ec : ∀ v, a'.eval (.const v) = v := fun _ => rfl; obtain ⟨b2, b3, b5, k0, k1, k2, k3, k4, k5⟩ := HS _ hw; clear hA; generalize a'.eval = ρ at *; simp [go_sem, ec, e6, b2, b3, b5, k0, k1, k2, k3, k4, k5]; try rfl) ?_
    clear hF
    intro a hF
    refine call_fs 3 (oi := { dst := some 60, op := Op.call { callee := Callee.value (Operand.func 27), args := #[Operand.tmp 59], argTypes := #[25] }, type := 4, pos := "ref.go:70", after := #[{ on := 2, ground := Ground.data }, { on := 1, ground := Ground.chain }, { on := 1, ground := Ground.guard }], guard := some (1, true) }) (d := 60) (R := fun v w' => v = .bool false) hF rfl rfl (by decide) (by kernel_rfl) (fun a' hA => hA.wantedB (j := 1) (dj := 58) (b := true) rfl (by kernel_rfl) (by decide) rfl) (fun a' hA => by have e59 := hA.get 59 rfl; have ef : ∀ f, a'.eval (.func f) = .func (.func f) #[] #[] := fun _ => rfl; clear hA; generalize a'.eval = ρ at *; simp [go_sem, ef, e59]) ((HX _ hS).mono ?_) ?_
    · rintro e w' ⟨rfl, hb⟩
      exact ⟨_, rfl, ret_val hrv, hS.trans (hb.mono hS.size)⟩
    clear hF
    rintro a v wd hF rfl hS
    refine take_fs' 4 [35] (oi := { dst := some 61, op := Op.pick (Operand.tmp 58) (Operand.tmp 60) (Operand.const (Value.bool false)), type := 4, pos := "ref.go:70", after := #[{ on := 1, ground := Ground.data }, { on := 3, ground := Ground.data }], guard := none }) (d := 61) (v := .bool false) hF hQ hS rfl rfl (by decide) (by kernel_rfl) (by kernel_rfl) (by kernel_rfl) (by kernel_rfl) (fun a' hA => wanted_none rfl) (fun a' hA w' hw => by have e58 := hA.get 58 rfl; have e60 := hA.get 60 rfl; have ec : ∀ v, a'.eval (.const v) = v := fun _ => rfl; clear hA; generalize a'.eval = ρ at *; simp [go_sem, ec, e58, e60]; try rfl) ?_
    clear hF
    intro a hF
    refine take_fs' 5 [35] (oi := { dst := some 62, op := Op.move (Operand.tmp 61), type := 4, pos := "ref.go:70", after := #[{ on := 4, ground := Ground.data }, { on := 3, ground := Ground.chain }], guard := none }) (d := 62) (v := .bool false) hF hQ hS rfl rfl (by decide) (by kernel_rfl) (by kernel_rfl) (by kernel_rfl) (by kernel_rfl) (fun a' hA => wanted_none rfl) (run_move_fs rfl rfl) ?_
    clear hF
    intro a hF
    refine skip_fs 6 [35] (oi := { dst := some 63, op := Op.fieldAddr 25 (Operand.tmp 6) 2, type := 0, pos := "ref.go:70", after := #[{ on := 5, ground := Ground.guard }], guard := some (5, true) }) (d := 63) hF hQ hS rfl rfl (by decide) (by kernel_rfl) (by kernel_rfl) (by kernel_rfl) (by kernel_rfl) (fun a' hA => hA.unwanted (j := 5) (dj := 62) (b := true) (v := .bool false) rfl (by kernel_rfl) (by decide) rfl (by intro h; cases h)) ?_
    clear hF
    intro a hF
    refine skip_fs 7 [35] (oi := { dst := some 64, op := Op.load 3 (Operand.tmp 63), type := 3, pos := "ref.go:70", after := #[{ on := 6, ground := Ground.data }, { on := 5, ground := Ground.guard }], guard := some (5, true) }) (d := 64) hF hQ hS rfl rfl (by decide) (by kernel_rfl) (by kernel_rfl) (by kernel_rfl) (by kernel_rfl) (fun a' hA => hA.unwanted (j := 5) (dj := 62) (b := true) (v := .bool false) rfl (by kernel_rfl) (by decide) rfl (by intro h; cases h)) ?_
    clear hF
    intro a hF
    refine skip_fs 8 [35] (oi := { dst := some 65, op := Op.fieldAddr 25 (Operand.tmp 1) 2, type := 0, pos := "ref.go:70", after := #[{ on := 5, ground := Ground.guard }], guard := some (5, true) }) (d := 65) hF hQ hS rfl rfl (by decide) (by kernel_rfl) (by kernel_rfl) (by kernel_rfl) (by kernel_rfl) (fun a' hA => hA.unwanted (j := 5) (dj := 62) (b := true) (v := .bool false) rfl (by kernel_rfl) (by decide) rfl (by intro h; cases h)) ?_
    clear hF
    intro a hF
    refine skip_fs 9 [35] (oi := { dst := some 66, op := Op.load 3 (Operand.tmp 65), type := 3, pos := "ref.go:70", after := #[{ on := 8, ground := Ground.data }, { on := 5, ground := Ground.guard }], guard := some (5, true) }) (d := 66) hF hQ hS rfl rfl (by decide) (by kernel_rfl) (by kernel_rfl) (by kernel_rfl) (by kernel_rfl) (fun a' hA => hA.unwanted (j := 5) (dj := 62) (b := true) (v := .bool false) rfl (by kernel_rfl) (by decide) rfl (by intro h; cases h)) ?_
    clear hF
    intro a hF
    refine skip_fs 10 [35] (oi := { dst := some 67, op := Op.binOp BinOp.geq 3 (Operand.tmp 64) (Operand.tmp 66) 3, type := 4, pos := "ref.go:70", after := #[{ on := 7, ground := Ground.data }, { on := 9, ground := Ground.data }, { on := 5, ground := Ground.guard }], guard := some (5, true) }) (d := 67) hF hQ hS rfl rfl (by decide) (by kernel_rfl) (by kernel_rfl) (by kernel_rfl) (by kernel_rfl) (fun a' hA => hA.unwanted (j := 5) (dj := 62) (b := true) (v := .bool false) rfl (by kernel_rfl) (by decide) rfl (by intro h; cases h)) ?_
    clear hF
    intro a hF
    refine take_fs' 11 [35] (oi := { dst := some 68, op := Op.pick (Operand.tmp 62) (Operand.tmp 67) (Operand.const (Value.bool false)), type := 4, pos := "ref.go:70", after := #[{ on := 5, ground := Ground.data }, { on := 10, ground := Ground.data }], guard := none }) (d := 68) (v := .bool false) hF hQ hS rfl rfl (by decide) (by kernel_rfl) (by kernel_rfl) (by kernel_rfl) (by kernel_rfl) (fun a' hA => wanted_none rfl) (fun a' hA w' hw => by have e62 := hA.get 62 rfl; have e67 := hA.get 67 rfl; have ec : ∀ v, a'.eval (.const v) = v := fun _ => rfl; clear hA; generalize a'.eval = ρ at *; simp [go_sem, ec, e62, e67]; try rfl) ?_
    clear hF
    intro a hF
    refine take_fs' 12 [35] (oi := { dst := some 69, op := Op.move (Operand.tmp 68), type := 4, pos := "ref.go:70", after := #[{ on := 11, ground := Ground.data }, { on := 5, ground := Ground.chain }], guard := none }) (d := 69) (v := .bool false) hF hQ hS rfl rfl (by decide) (by kernel_rfl) (by kernel_rfl) (by kernel_rfl) (by kernel_rfl) (fun a' hA => wanted_none rfl) (run_move_fs rfl rfl) ?_
    clear hF
    intro a hF
    refine skip_fs 13 [35] (oi := { dst := some 70, op := Op.fieldAddr 25 (Operand.tmp 6) 3, type := 0, pos := "ref.go:70", after := #[{ on := 12, ground := Ground.guard }], guard := some (12, true) }) (d := 70) hF hQ hS rfl rfl (by decide) (by kernel_rfl) (by kernel_rfl) (by kernel_rfl) (by kernel_rfl) (fun a' hA => hA.unwanted (j := 12) (dj := 69) (b := true) (v := .bool false) rfl (by kernel_rfl) (by decide) rfl (by intro h; cases h)) ?_
    clear hF
    intro a hF
    refine skip_fs 14 [35] (oi := { dst := some 71, op := Op.load 3 (Operand.tmp 70), type := 3, pos := "ref.go:70", after := #[{ on := 13, ground := Ground.data }, { on := 12, ground := Ground.guard }], guard := some (12, true) }) (d := 71) hF hQ hS rfl rfl (by decide) (by kernel_rfl) (by kernel_rfl) (by kernel_rfl) (by kernel_rfl) (fun a' hA => hA.unwanted (j := 12) (dj := 69) (b := true) (v := .bool false) rfl (by kernel_rfl) (by decide) rfl (by intro h; cases h)) ?_
    clear hF
    intro a hF
    refine skip_fs 15 [35] (oi := { dst := some 72, op := Op.fieldAddr 25 (Operand.tmp 1) 3, type := 0, pos := "ref.go:70", after := #[{ on := 12, ground := Ground.guard }], guard := some (12, true) }) (d := 72) hF hQ hS rfl rfl (by decide) (by kernel_rfl) (by kernel_rfl) (by kernel_rfl) (by kernel_rfl) (fun a' hA => hA.unwanted (j := 12) (dj := 69) (b := true) (v := .bool false) rfl (by kernel_rfl) (by decide) rfl (by intro h; cases h)) ?_
    clear hF
    intro a hF
    refine skip_fs 16 [35] (oi := { dst := some 73, op := Op.load 3 (Operand.tmp 72), type := 3, pos := "ref.go:70", after := #[{ on := 15, ground := Ground.data }, { on := 12, ground := Ground.guard }], guard := some (12, true) }) (d := 73) hF hQ hS rfl rfl (by decide) (by kernel_rfl) (by kernel_rfl) (by kernel_rfl) (by kernel_rfl) (fun a' hA => hA.unwanted (j := 12) (dj := 69) (b := true) (v := .bool false) rfl (by kernel_rfl) (by decide) rfl (by intro h; cases h)) ?_
    clear hF
    intro a hF
    refine skip_fs 17 [35] (oi := { dst := some 74, op := Op.binOp BinOp.leq 3 (Operand.tmp 71) (Operand.tmp 73) 3, type := 4, pos := "ref.go:70", after := #[{ on := 14, ground := Ground.data }, { on := 16, ground := Ground.data }, { on := 12, ground := Ground.guard }], guard := some (12, true) }) (d := 74) hF hQ hS rfl rfl (by decide) (by kernel_rfl) (by kernel_rfl) (by kernel_rfl) (by kernel_rfl) (fun a' hA => hA.unwanted (j := 12) (dj := 69) (b := true) (v := .bool false) rfl (by kernel_rfl) (by decide) rfl (by intro h; cases h)) ?_
    clear hF
    intro a hF
    refine take_fs' 18 [35] (oi := { dst := some 75, op := Op.pick (Operand.tmp 69) (Operand.tmp 74) (Operand.const (Value.bool false)), type := 4, pos := "ref.go:70", after := #[{ on := 12, ground := Ground.data }, { on := 17, ground := Ground.data }], guard := none }) (d := 75) (v := .bool false) hF hQ hS rfl rfl (by decide) (by kernel_rfl) (by kernel_rfl) (by kernel_rfl) (by kernel_rfl) (fun a' hA => wanted_none rfl) (fun a' hA w' hw => by have e69 := hA.get 69 rfl; have e74 := hA.get 74 rfl; have ec : ∀ v, a'.eval (.const v) = v := fun _ => rfl; clear hA; generalize a'.eval = ρ at *; simp [go_sem, ec, e69, e74]; try rfl) ?_
    clear hF
    intro a hF
    refine take_fs' 19 [35] (oi := { dst := some 76, op := Op.move (Operand.tmp 75), type := 4, pos := "ref.go:70", after := #[{ on := 18, ground := Ground.data }, { on := 12, ground := Ground.chain }], guard := none }) (d := 76) (v := .bool false) hF hQ hS rfl rfl (by decide) (by kernel_rfl) (by kernel_rfl) (by kernel_rfl) (by kernel_rfl) (fun a' hA => wanted_none rfl) (run_move_fs rfl rfl) ?_
    clear hF
    intro a hF
    refine skip_fs 20 [35] (oi := { dst := some 77, op := Op.move (Operand.tmp 5), type := 3, pos := "ref.go:70", after := #[{ on := 19, ground := Ground.guard }], guard := some (19, true) }) (d := 77) hF hQ hS rfl rfl (by decide) (by kernel_rfl) (by kernel_rfl) (by kernel_rfl) (by kernel_rfl) (fun a' hA => hA.unwanted (j := 19) (dj := 76) (b := true) (v := .bool false) rfl (by kernel_rfl) (by decide) rfl (by intro h; cases h)) ?_
    clear hF
    intro a hF
    refine skip_fs 21 [35] (oi := { dst := some 78, op := Op.binOp BinOp.eql 3 (Operand.tmp 77) (Operand.const (Value.int IntKind.i64 0)) 3, type := 4, pos := "ref.go:70", after := #[{ on := 20, ground := Ground.data }, { on := 19, ground := Ground.guard }], guard := some (19, true) }) (d := 78) hF hQ hS rfl rfl (by decide) (by kernel_rfl) (by kernel_rfl) (by kernel_rfl) (by kernel_rfl) (fun a' hA => hA.unwanted (j := 19) (dj := 76) (b := true) (v := .bool false) rfl (by kernel_rfl) (by decide) rfl (by intro h; cases h)) ?_
    clear hF
    intro a hF
    refine skip_fs 22 [35] (oi := { dst := some 79, op := Op.move (Operand.tmp 78), type := 4, pos := "ref.go:70", after := #[{ on := 21, ground := Ground.data }, { on := 19, ground := Ground.chain }, { on := 19, ground := Ground.guard }], guard := some (19, true) }) (d := 79) hF hQ hS rfl rfl (by decide) (by kernel_rfl) (by kernel_rfl) (by kernel_rfl) (by kernel_rfl) (fun a' hA => hA.unwanted (j := 19) (dj := 76) (b := true) (v := .bool false) rfl (by kernel_rfl) (by decide) rfl (by intro h; cases h)) ?_
    clear hF
    intro a hF
    refine skip_fs 23 [35] (oi := { dst := some 80, op := Op.fieldAddr 25 (Operand.tmp 6) 2, type := 0, pos := "ref.go:70", after := #[{ on := 22, ground := Ground.guard }], guard := some (22, false) }) (d := 80) hF hQ hS rfl rfl (by decide) (by kernel_rfl) (by kernel_rfl) (by kernel_rfl) (by kernel_rfl) (fun a' hA => hA.unwanted (j := 22) (dj := 79) (b := false) (v := undef) rfl (by kernel_rfl) (by decide) rfl (by intro h; cases h)) ?_
    clear hF
    intro a hF
    refine skip_fs 24 [35] (oi := { dst := some 81, op := Op.load 3 (Operand.tmp 80), type := 3, pos := "ref.go:70", after := #[{ on := 23, ground := Ground.data }, { on := 22, ground := Ground.guard }], guard := some (22, false) }) (d := 81) hF hQ hS rfl rfl (by decide) (by kernel_rfl) (by kernel_rfl) (by kernel_rfl) (by kernel_rfl) (fun a' hA => hA.unwanted (j := 22) (dj := 79) (b := false) (v := undef) rfl (by kernel_rfl) (by decide) rfl (by intro h; cases h)) ?_
    clear hF
    intro a hF
    refine skip_fs 25 [35] (oi := { dst := some 82, op := Op.fieldAddr 25 (Operand.tmp 1) 5, type := 0, pos := "ref.go:70", after := #[{ on := 22, ground := Ground.guard }], guard := some (22, false) }) (d := 82) hF hQ hS rfl rfl (by decide) (by kernel_rfl) (by kernel_rfl) (by kernel_rfl) (by kernel_rfl) (fun a' hA => hA.unwanted (j := 22) (dj := 79) (b := false) (v := undef) rfl (by kernel_rfl) (by decide) rfl (by intro h; cases h)) ?_
    clear hF
    intro a hF
    refine skip_fs 26 [35] (oi := { dst := some 83, op := Op.load 23 (Operand.tmp 82), type := 23, pos := "ref.go:70", after := #[{ on := 25, ground := Ground.data }, { on := 22, ground := Ground.guard }], guard := some (22, false) }) (d := 83) hF hQ hS rfl rfl (by decide) (by kernel_rfl) (by kernel_rfl) (by kernel_rfl) (by kernel_rfl) (fun a' hA => hA.unwanted (j := 22) (dj := 79) (b := false) (v := undef) rfl (by kernel_rfl) (by decide) rfl (by intro h; cases h)) ?_
    clear hF
    intro a hF
    refine skip_fs 27 [35] (oi := { dst := some 84, op := Op.move (Operand.tmp 5), type := 3, pos := "ref.go:70", after := #[{ on := 22, ground := Ground.guard }], guard := some (22, false) }) (d := 84) hF hQ hS rfl rfl (by decide) (by kernel_rfl) (by kernel_rfl) (by kernel_rfl) (by kernel_rfl) (fun a' hA => hA.unwanted (j := 22) (dj := 79) (b := false) (v := undef) rfl (by kernel_rfl) (by decide) rfl (by intro h; cases h)) ?_
    clear hF
    intro a hF
    refine skip_fs 28 [35] (oi := { dst := some 85, op := Op.binOp BinOp.sub 3 (Operand.tmp 84) (Operand.const (Value.int IntKind.i64 1)) 3, type := 3, pos := "ref.go:70", after := #[{ on := 27, ground := Ground.data }, { on := 22, ground := Ground.guard }], guard := some (22, false) }) (d := 85) hF hQ hS rfl rfl (by decide) (by kernel_rfl) (by kernel_rfl) (by kernel_rfl) (by kernel_rfl) (fun a' hA => hA.unwanted (j := 22) (dj := 79) (b := false) (v := undef) rfl (by kernel_rfl) (by decide) rfl (by intro h; cases h)) ?_
    clear hF
    intro a hF
    refine skip_fs 29 [35] (oi := { dst := some 86, op := Op.indexAddr 23 (Operand.tmp 83) (Operand.tmp 85), type := 0, pos := "ref.go:70", after := #[{ on := 26, ground := Ground.data }, { on := 28, ground := Ground.data }, { on := 22, ground := Ground.guard }], guard := some (22, false) }) (d := 86) hF hQ hS rfl rfl (by decide) (by kernel_rfl) (by kernel_rfl) (by kernel_rfl) (by kernel_rfl) (fun a' hA => hA.unwanted (j := 22) (dj := 79) (b := false) (v := undef) rfl (by kernel_rfl) (by decide) rfl (by intro h; cases h)) ?_
    clear hF
    intro a hF
    refine skip_fs 30 [35] (oi := { dst := some 87, op := Op.fieldAddr 25 (Operand.tmp 86) 3, type := 0, pos := "ref.go:70", after := #[{ on := 29, ground := Ground.data }, { on := 22, ground := Ground.guard }], guard := some (22, false) }) (d := 87) hF hQ hS rfl rfl (by decide) (by kernel_rfl) (by kernel_rfl) (by kernel_rfl) (by kernel_rfl) (fun a' hA => hA.unwanted (j := 22) (dj := 79) (b := false) (v := undef) rfl (by kernel_rfl) (by decide) rfl (by intro h; cases h)) ?_
    clear hF
    intro a hF
    refine skip_fs 31 [35] (oi := { dst := some 88, op := Op.load 3 (Operand.tmp 87), type := 3, pos := "ref.go:70", after := #[{ on := 30, ground := Ground.data }, { on := 22, ground := Ground.guard }], guard := some (22, false) }) (d := 88) hF hQ hS rfl rfl (by decide) (by kernel_rfl) (by kernel_rfl) (by kernel_rfl) (by kernel_rfl) (fun a' hA => hA.unwanted (j := 22) (dj := 79) (b := false) (v := undef) rfl (by kernel_rfl) (by decide) rfl (by intro h; cases h)) ?_
    clear hF
    intro a hF
    refine skip_fs 32 [35] (oi := { dst := some 89, op := Op.binOp BinOp.geq 3 (Operand.tmp 81) (Operand.tmp 88) 3, type := 4, pos := "ref.go:70", after := #[{ on := 24, ground := Ground.data }, { on := 31, ground := Ground.data }, { on := 22, ground := Ground.guard }], guard := some (22, false) }) (d := 89) hF hQ hS rfl rfl (by decide) (by kernel_rfl) (by kernel_rfl) (by kernel_rfl) (by kernel_rfl) (fun a' hA => hA.unwanted (j := 22) (dj := 79) (b := false) (v := undef) rfl (by kernel_rfl) (by decide) rfl (by intro h; cases h)) ?_
    clear hF
    intro a hF
    refine skip_fs 33 [35] (oi := { dst := some 90, op := Op.pick (Operand.tmp 79) (Operand.const (Value.bool true)) (Operand.tmp 89), type := 4, pos := "ref.go:70", after := #[{ on := 22, ground := Ground.data }, { on := 32, ground := Ground.data }, { on := 19, ground := Ground.guard }], guard := some (19, true) }) (d := 90) hF hQ hS rfl rfl (by decide) (by kernel_rfl) (by kernel_rfl) (by kernel_rfl) (by kernel_rfl) (fun a' hA => hA.unwanted (j := 19) (dj := 76) (b := true) (v := .bool false) rfl (by kernel_rfl) (by decide) rfl (by intro h; cases h)) ?_
    clear hF
    intro a hF
    refine take_fs' 34 [35] (oi := { dst := some 91, op := Op.pick (Operand.tmp 76) (Operand.tmp 90) (Operand.const (Value.bool false)), type := 4, pos := "ref.go:70", after := #[{ on := 19, ground := Ground.data }, { on := 33, ground := Ground.data }], guard := none }) (d := 91) (v := .bool false) hF hQ hS rfl rfl (by decide) (by kernel_rfl) (by kernel_rfl) (by kernel_rfl) (by kernel_rfl) (fun a' hA => wanted_none rfl) (fun a' hA w' hw => by have e76 := hA.get 76 rfl; have e90 := hA.get 90 rfl; have ec : ∀ v, a'.eval (.const v) = v := fun _ => rfl; clear hA; generalize a'.eval = ρ at *; simp [go_sem, ec, e76, e90]; try rfl) ?_
    clear hF
    intro a hF
    refine last_fs 35 (oi := { dst := some 3, op := Op.assign (Operand.tmp 91), type := 4, pos := "ref.go:70", after := #[{ on := 34, ground := Ground.data }, { on := 22, ground := Ground.chain }, { on := 0, ground := Ground.phase }, { on := 1, ground := Ground.phase }, { on := 2, ground := Ground.phase }, { on := 3, ground := Ground.phase }, { on := 4, ground := Ground.phase }, { on := 5, ground := Ground.phase }, { on := 6, ground := Ground.phase }, { on := 7, ground := Ground.phase }, { on := 8, ground := Ground.phase }, { on := 9, ground := Ground.phase }, { on := 10, ground := Ground.phase }, { on := 11, ground := Ground.phase }, { on := 12, ground := Ground.phase }, { on := 13, ground := Ground.phase }, { on := 14, ground := Ground.phase }, { on := 15, ground := Ground.phase }, { on := 16, ground := Ground.phase }, { on := 17, ground := Ground.phase }, { on := 18, ground := Ground.phase }, { on := 19, ground := Ground.phase }, { on := 20, ground := Ground.phase }, { on := 21, ground := Ground.phase }, { on := 22, ground := Ground.phase }, { on := 23, ground := Ground.phase }, { on := 24, ground := Ground.phase }, { on := 25, ground := Ground.phase }, { on := 26, ground := Ground.phase }, { on := 27, ground := Ground.phase }, { on := 28, ground := Ground.phase }, { on := 29, ground := Ground.phase }, { on := 30, ground := Ground.phase }, { on := 31, ground := Ground.phase }, { on := 32, ground := Ground.phase }, { on := 33, ground := Ground.phase }, { on := 34, ground := Ground.phase }], guard := none }) (d := 3) (v := .bool false) hF rfl rfl (by decide) (by kernel_rfl) (by kernel_rfl) (by kernel_rfl) (fun a' hA => wanted_none rfl) (fun a' hA => by rw [BigFrame.run_assign (.tmp 91) rfl, hA.get 91 rfl]) ?_
    intro a' hF'
    exact H a' _ (by rw [hres]; exact Fs.of hF'.1 hF'.2.1 (by simp only [List.forall_mem_cons]; exact ⟨hF'.get 1 rfl, hF'.get 3 rfl, hF'.get 5 rfl, hF'.get 6 rfl, by simp⟩)) (fun k v h1 h3 h5 h6 hk => by
      have hkk := hLx k v hk
      refine hF'.2.2 k v ?_
      simp only [List.cons_append, List.nil_append]
      rw [look_skip (by omega)]
      rw [look_skip (by omega)]
      rw [look_skip (by omega)]
      rw [look_skip (by omega)]
      rw [look_skip (by omega)]
      rw [look_skip (by omega)]
      rw [look_skip (by omega)]
      rw [look_skip (by omega)]
      rw [look_skip (by omega)]
      rw [look_skip (by omega)]
      rw [look_skip (by omega)]
      rw [look_skip (by omega)]
      rw [look_skip (by omega)]
      rw [look_skip (by omega)]
      rw [look_skip (by omega)]
      rw [look_skip (by omega)]
      rw [look_skip (by omega)]
      rw [look_skip (by omega)]
      rw [look_skip (by omega)]
      rw [look_skip (by omega)]
      rw [look_skip (by omega)]
      rw [look_skip (by omega)]
      rw [look_skip (by omega)]
      rw [look_skip (by omega)]
      rw [look_skip (by omega)]
      rw [look_skip (by omega)]
      rw [look_skip (by omega)]
      rw [look_skip (by omega)]
      rw [look_skip (by omega)]
      rw [look_skip (by omega)]
      rw [look_skip (by omega)]
      rw [look_skip (by omega)]
      rw [look_skip (by omega)]
      rw [look_skip (by omega)]
      rw [look_skip (by omega)]
      rw [look_skip (by omega)]
      rw [look_skip (by omega)]
      rw [look_skip (by omega)]
      rw [look_skip (by omega)]
      rw [look_skip (by omega)]
      exact hk) hS

set_option maxRecDepth 20000 in
set_option maxHeartbeats 4000000 in
theorem right10_2 {Q : Exit → Act → World → Prop} {a : Act} {w : World} {bb kb b1 off kn kc i : Nat} {f t xk xm xf xt : Int} {xnp : Option Addr} {xnn xnc : Nat} {xkp : Option Addr} {xkn xkc : Nat} {pt : Int} {rv : Bool} {Lx : List (Nat × Value)}
    (h : R10 w bb kb b1 off kn kc i f t xk xm xf xt xnp xnn xnc xkp xkn xkc pt true rv) (hrv : rv = true) (hc1 : ¬ f ≤ xf)
    (hF : Fs a 93 ([(1, .pointer (some ⟨bb, 0, none⟩)), (3, .bool true), (5, .int .i64 (i : Int)), (6, .pointer (some ⟨kb, 0, none⟩))] ++ Lx))
    (hLx : ∀ k v, Lx.lookup k = some v → k < 57 ∨ 92 ≤ k)
    (hQ : ∀ c (a a' : Act) w, a'.defers = a.defers → Q (.panic c) a w → Q (.panic c) a' w)
    (H : ∀ a' w', Fs a' 93 [(1, .pointer (some ⟨bb, 0, none⟩)), (3, .bool (kidOk true rv f t xf xt i pt)), (5, .int .i64 (i : Int)), (6, .pointer (some ⟨kb, 0, none⟩))] → (∀ k v, k ≠ 1 → k ≠ 3 → k ≠ 5 → k ≠ 6 → Lx.lookup k = some v → a'.eval (.tmp k) = v) → Below w.heap.size w w' → Q .normal a' w') :
    (Code.region 10 opsR10 true).wp Try.prog Q a w := by
    have hres : kidOk true rv f t xf xt i pt = false := by simp [kidOk, hrv, hc1]
    have HS := h.HS
    have HX := h.HX
    refine wp_region_till (fun W => Below w.heap.size w W) 35 (by kernel_rfl) ?_
    have hS : Below w.heap.size w w.drew := (Below.refl w.heap.size w).drew
    obtain ⟨wc, hwc⟩ : ∃ wc, wc = w.drew := ⟨_, rfl⟩
    rw [← hwc] at hS ⊢
    clear hwc
    refine take_fs' 0 [35] (oi := { dst := some 57, op := Op.move (Operand.tmp 3), type := 4, pos := "ref.go:70", after := #[], guard := none }) (d := 57) (v := .bool true) hF hQ hS rfl rfl (by decide) (by kernel_rfl) (by kernel_rfl) (by kernel_rfl) (by kernel_rfl) (fun a' hA => wanted_none rfl) (run_move_fs rfl rfl) ?_
    clear hF
    intro a hF
    refine take_fs' 1 [35] (oi := { dst := some 58, op := Op.move (Operand.tmp 57), type := 4, pos := "ref.go:70", after := #[{ on := 0, ground := Ground.data }], guard := none }) (d := 58) (v := .bool true) hF hQ hS rfl rfl (by decide) (by kernel_rfl) (by kernel_rfl) (by kernel_rfl) (by kernel_rfl) (fun a' hA => wanted_none rfl) (run_move_fs rfl rfl) ?_
    clear hF
    intro a hF
    refine take_fs' 2 [35] (oi := { dst := some 59, op := Op.load 25 (Operand.tmp 6), type := 25, pos := "ref.go:70", after := #[{ on := 1, ground := Ground.guard }], guard := some (1, true) }) (d := 59) (v := .agg #[.int .i64 xk, .int .i64 xm, .int .i64 xf, .int .i64 xt, .slice xnp xnn xnc, .slice xkp xkn xkc]) hF hQ hS rfl rfl (by decide) (by kernel_rfl) (by kernel_rfl) (by kernel_rfl) (by kernel_rfl) (fun a' hA => hA.wantedB (j := 1) (dj := 58) (b := true) rfl (by kernel_rfl) (by decide) rfl) (fun a' hA w' hw => by have e6 := hA.get 6 rfl; have ec : ∀ v, a'.eval (.const v) = v := fun _ => rfl; obtain ⟨b2, b3, b5, k0, k1, k2, k3, k4, k5⟩ := HS _ hw; clear hA; generalize a'.eval = ρ at *; simp [go_sem, ec, e6, b2, b3, b5, k0, k1, k2, k3, k4, k5]; try rfl) ?_
    clear hF
    intro a hF
    refine call_fs 3 (oi := { dst := some 60, op := Op.call { callee := Callee.value (Operand.func 27), args := #[Operand.tmp 59], argTypes := #[25] }, type := 4, pos := "ref.go:70", after := #[{ on := 2, ground := Ground.data }, { on := 1, ground := Ground.chain }, { on := 1, ground := Ground.guard }], guard := some (1, true) }) (d := 60) (R := fun v w' => v = .bool true) hF rfl rfl (by decide) (by kernel_rfl) (fun a' hA => hA.wantedB (j := 1) (dj := 58) (b := true) rfl (by kernel_rfl) (by decide) rfl) (fun a' hA => by have e59 := hA.get 59 rfl; have ef : ∀ f, a'.eval (.func f) = .func (.func f) #[] #[] := fun _ => rfl; clear hA; generalize a'.eval = ρ at *; simp [go_sem, ef, e59]) ((HX _ hS).mono ?_) ?_
    · rintro e w' ⟨rfl, hb⟩
      exact ⟨_, rfl, ret_val hrv, hS.trans (hb.mono hS.size)⟩
    clear hF
    rintro a v wd hF rfl hS
    refine take_fs' 4 [35] (oi := { dst := some 61, op := Op.pick (Operand.tmp 58) (Operand.tmp 60) (Operand.const (Value.bool false)), type := 4, pos := "ref.go:70", after := #[{ on := 1, ground := Ground.data }, { on := 3, ground := Ground.data }], guard := none }) (d := 61) (v := .bool true) hF hQ hS rfl rfl (by decide) (by kernel_rfl) (by kernel_rfl) (by kernel_rfl) (by kernel_rfl) (fun a' hA => wanted_none rfl) (fun a' hA w' hw => by have e58 := hA.get 58 rfl; have e60 := hA.get 60 rfl; have ec : ∀ v, a'.eval (.const v) = v := fun _ => rfl; clear hA; generalize a'.eval = ρ at *; simp [go_sem, ec, e58, e60]; try rfl) ?_
    clear hF
    intro a hF
    refine take_fs' 5 [35] (oi := { dst := some 62, op := Op.move (Operand.tmp 61), type := 4, pos := "ref.go:70", after := #[{ on := 4, ground := Ground.data }, { on := 3, ground := Ground.chain }], guard := none }) (d := 62) (v := .bool true) hF hQ hS rfl rfl (by decide) (by kernel_rfl) (by kernel_rfl) (by kernel_rfl) (by kernel_rfl) (fun a' hA => wanted_none rfl) (run_move_fs rfl rfl) ?_
    clear hF
    intro a hF
    refine take_fs' 6 [35] (oi := { dst := some 63, op := Op.fieldAddr 25 (Operand.tmp 6) 2, type := 0, pos := "ref.go:70", after := #[{ on := 5, ground := Ground.guard }], guard := some (5, true) }) (d := 63) (v := .pointer (some ⟨kb, 2, none⟩)) hF hQ hS rfl rfl (by decide) (by kernel_rfl) (by kernel_rfl) (by kernel_rfl) (by kernel_rfl) (fun a' hA => hA.wantedB (j := 5) (dj := 62) (b := true) rfl (by kernel_rfl) (by decide) rfl) (fun a' hA w' hw => by have e6 := hA.get 6 rfl; have ec : ∀ v, a'.eval (.const v) = v := fun _ => rfl; clear hA; generalize a'.eval = ρ at *; simp [go_sem, ec, e6]; try rfl) ?_
    clear hF
    intro a hF
    refine take_fs' 7 [35] (oi := { dst := some 64, op := Op.load 3 (Operand.tmp 63), type := 3, pos := "ref.go:70", after := #[{ on := 6, ground := Ground.data }, { on := 5, ground := Ground.guard }], guard := some (5, true) }) (d := 64) (v := .int .i64 xf) hF hQ hS rfl rfl (by decide) (by kernel_rfl) (by kernel_rfl) (by kernel_rfl) (by kernel_rfl) (fun a' hA => hA.wantedB (j := 5) (dj := 62) (b := true) rfl (by kernel_rfl) (by decide) rfl) (fun a' hA w' hw => by have e63 := hA.get 63 rfl; have ec : ∀ v, a'.eval (.const v) = v := fun _ => rfl; obtain ⟨b2, b3, b5, k0, k1, k2, k3, k4, k5⟩ := HS _ hw; clear hA; generalize a'.eval = ρ at *; simp [go_sem, ec, e63, b2, b3, b5, k0, k1, k2, k3, k4, k5]; try rfl) ?_
    clear hF
    intro a hF
    refine take_fs' 8 [35] (oi := { dst := some 65, op := Op.fieldAddr 25 (Operand.tmp 1) 2, type := 0, pos := "ref.go:70", after := #[{ on := 5, ground := Ground.guard }], guard := some (5, true) }) (d := 65) (v := .pointer (some ⟨bb, 2, none⟩)) hF hQ hS rfl rfl (by decide) (by kernel_rfl) (by kernel_rfl) (by kernel_rfl) (by kernel_rfl) (fun a' hA => hA.wantedB (j := 5) (dj := 62) (b := true) rfl (by kernel_rfl) (by decide) rfl) (fun a' hA w' hw => by have e1 := hA.get 1 rfl; have ec : ∀ v, a'.eval (.const v) = v := fun _ => rfl; clear hA; generalize a'.eval = ρ at *; simp [go_sem, ec, e1]; try rfl) ?_
    clear hF
    intro a hF
    refine take_fs' 9 [35] (oi := { dst := some 66, op := Op.load 3 (Operand.tmp 65), type := 3, pos := "ref.go:70", after := #[{ on := 8, ground := Ground.data }, { on := 5, ground := Ground.guard }], guard := some (5, true) }) (d := 66) (v := .int .i64 f) hF hQ hS rfl rfl (by decide) (by kernel_rfl) (by kernel_rfl) (by kernel_rfl) (by kernel_rfl) (fun a' hA => hA.wantedB (j := 5) (dj := 62) (b := true) rfl (by kernel_rfl) (by decide) rfl) (fun a' hA w' hw => by have e65 := hA.get 65 rfl; have ec : ∀ v, a'.eval (.const v) = v := fun _ => rfl; obtain ⟨b2, b3, b5, k0, k1, k2, k3, k4, k5⟩ := HS _ hw; clear hA; generalize a'.eval = ρ at *; simp [go_sem, ec, e65, b2, b3, b5, k0, k1, k2, k3, k4, k5]; try rfl) ?_
    clear hF
    intro a hF
    refine take_fs' 10 [35] (oi := { dst := some 67, op := Op.binOp BinOp.geq 3 (Operand.tmp 64) (Operand.tmp 66) 3, type := 4, pos := "ref.go:70", after := #[{ on := 7, ground := Ground.data }, { on := 9, ground := Ground.data }, { on := 5, ground := Ground.guard }], guard := some (5, true) }) (d := 67) (v := .bool false) hF hQ hS rfl rfl (by decide) (by kernel_rfl) (by kernel_rfl) (by kernel_rfl) (by kernel_rfl) (fun a' hA => hA.wantedB (j := 5) (dj := 62) (b := true) rfl (by kernel_rfl) (by decide) rfl) (fun a' hA w' hw => by have e64 := hA.get 64 rfl; have e66 := hA.get 66 rfl; have ec : ∀ v, a'.eval (.const v) = v := fun _ => rfl; clear hA; generalize a'.eval = ρ at *; simp [go_sem, ec, e64, e66, hc1]; try rfl) ?_
    clear hF
    intro a hF
    refine take_fs' 11 [35] (oi := { dst := some 68, op := Op.pick (Operand.tmp 62) (Operand.tmp 67) (Operand.const (Value.bool false)), type := 4, pos := "ref.go:70", after := #[{ on := 5, ground := Ground.data }, { on := 10, ground := Ground.data }], guard := none }) (d := 68) (v := .bool false) hF hQ hS rfl rfl (by decide) (by kernel_rfl) (by kernel_rfl) (by kernel_rfl) (by kernel_rfl) (fun a' hA => wanted_none rfl) (fun a' hA w' hw => by have e62 := hA.get 62 rfl; have e67 := hA.get 67 rfl; have ec : ∀ v, a'.eval (.const v) = v := fun _ => rfl; clear hA; generalize a'.eval = ρ at *; simp [go_sem, ec, e62, e67]; try rfl) ?_
    clear hF
    intro a hF
    refine take_fs' 12 [35] (oi := { dst := some 69, op := Op.move (Operand.tmp 68), type := 4, pos := "ref.go:70", after := #[{ on := 11, ground := Ground.data }, { on := 5, ground := Ground.chain }], guard := none }) (d := 69) (v := .bool false) hF hQ hS rfl rfl (by decide) (by kernel_rfl) (by kernel_rfl) (by kernel_rfl) (by kernel_rfl) (fun a' hA => wanted_none rfl) (run_move_fs rfl rfl) ?_
    clear hF
    intro a hF
    refine skip_fs 13 [35] (oi := { dst := some 70, op := Op.fieldAddr 25 (Operand.tmp 6) 3, type := 0, pos := "ref.go:70", after := #[{ on := 12, ground := Ground.guard }], guard := some (12, true) }) (d := 70) hF hQ hS rfl rfl (by decide) (by kernel_rfl) (by kernel_rfl) (by kernel_rfl) (by kernel_rfl) (fun a' hA => hA.unwanted (j := 12) (dj := 69) (b := true) (v := .bool false) rfl (by kernel_rfl) (by decide) rfl (by intro h; cases h)) ?_
    clear hF
    intro a hF
    refine skip_fs 14 [35] (oi := { dst := some 71, op := Op.load 3 (Operand.tmp 70), type := 3, pos := "ref.go:70", after := #[{ on := 13, ground := Ground.data }, { on := 12, ground := Ground.guard }], guard := some (12, true) }) (d := 71) hF hQ hS rfl rfl (by decide) (by kernel_rfl) (by kernel_rfl) (by kernel_rfl) (by kernel_rfl) (fun a' hA => hA.unwanted (j := 12) (dj := 69) (b := true) (v := .bool false) rfl (by kernel_rfl) (by decide) rfl (by intro h; cases h)) ?_
    clear hF
    intro a hF
    refine skip_fs 15 [35] (oi := { dst := some 72, op := Op.fieldAddr 25 (Operand.tmp 1) 3, type := 0, pos := "ref.go:70", after := #[{ on := 12, ground := Ground.guard }], guard := some (12, true) }) (d := 72) hF hQ hS rfl rfl (by decide) (by kernel_rfl) (by kernel_rfl) (by kernel_rfl) (by kernel_rfl) (fun a' hA => hA.unwanted (j := 12) (dj := 69) (b := true) (v := .bool false) rfl (by kernel_rfl) (by decide) rfl (by intro h; cases h)) ?_
    clear hF
    intro a hF
    refine skip_fs 16 [35] (oi := { dst := some 73, op := Op.load 3 (Operand.tmp 72), type := 3, pos := "ref.go:70", after := #[{ on := 15, ground := Ground.data }, { on := 12, ground := Ground.guard }], guard := some (12, true) }) (d := 73) hF hQ hS rfl rfl (by decide) (by kernel_rfl) (by kernel_rfl) (by kernel_rfl) (by kernel_rfl) (fun a' hA => hA.unwanted (j := 12) (dj := 69) (b := true) (v := .bool false) rfl (by kernel_rfl) (by decide) rfl (by intro h; cases h)) ?_
    clear hF
    intro a hF
    refine skip_fs 17 [35] (oi := { dst := some 74, op := Op.binOp BinOp.leq 3 (Operand.tmp 71) (Operand.tmp 73) 3, type := 4, pos := "ref.go:70", after := #[{ on := 14, ground := Ground.data }, { on := 16, ground := Ground.data }, { on := 12, ground := Ground.guard }], guard := some (12, true) }) (d := 74) hF hQ hS rfl rfl (by decide) (by kernel_rfl) (by kernel_rfl) (by kernel_rfl) (by kernel_rfl) (fun a' hA => hA.unwanted (j := 12) (dj := 69) (b := true) (v := .bool false) rfl (by kernel_rfl) (by decide) rfl (by intro h; cases h)) ?_
    clear hF
    intro a hF
    refine take_fs' 18 [35] (oi := { dst := some 75, op := Op.pick (Operand.tmp 69) (Operand.tmp 74) (Operand.const (Value.bool false)), type := 4, pos := "ref.go:70", after := #[{ on := 12, ground := Ground.data }, { on := 17, ground := Ground.data }], guard := none }) (d := 75) (v := .bool false) hF hQ hS rfl rfl (by decide) (by kernel_rfl) (by kernel_rfl) (by kernel_rfl) (by kernel_rfl) (fun a' hA => wanted_none rfl) (fun a' hA w' hw => by have e69 := hA.get 69 rfl; have e74 := hA.get 74 rfl; have ec : ∀ v, a'.eval (.const v) = v := fun _ => rfl; clear hA; generalize a'.eval = ρ at *; simp [go_sem, ec, e69, e74]; try rfl) ?_
    clear hF
    intro a hF
    refine take_fs' 19 [35] (oi := { dst := some 76, op := Op.move (Operand.tmp 75), type := 4, pos := "ref.go:70", after := #[{ on := 18, ground := Ground.data }, { on := 12, ground := Ground.chain }], guard := none }) (d := 76) (v := .bool false) hF hQ hS rfl rfl (by decide) (by kernel_rfl) (by kernel_rfl) (by kernel_rfl) (by kernel_rfl) (fun a' hA => wanted_none rfl) (run_move_fs rfl rfl) ?_
    clear hF
    intro a hF
    refine skip_fs 20 [35] (oi := { dst := some 77, op := Op.move (Operand.tmp 5), type := 3, pos := "ref.go:70", after := #[{ on := 19, ground := Ground.guard }], guard := some (19, true) }) (d := 77) hF hQ hS rfl rfl (by decide) (by kernel_rfl) (by kernel_rfl) (by kernel_rfl) (by kernel_rfl) (fun a' hA => hA.unwanted (j := 19) (dj := 76) (b := true) (v := .bool false) rfl (by kernel_rfl) (by decide) rfl (by intro h; cases h)) ?_
    clear hF
    intro a hF
    refine skip_fs 21 [35] (oi := { dst := some 78, op := Op.binOp BinOp.eql 3 (Operand.tmp 77) (Operand.const (Value.int IntKind.i64 0)) 3, type := 4, pos := "ref.go:70", after := #[{ on := 20, ground := Ground.data }, { on := 19, ground := Ground.guard }], guard := some (19, true) }) (d := 78) hF hQ hS rfl rfl (by decide) (by kernel_rfl) (by kernel_rfl) (by kernel_rfl) (by kernel_rfl) (fun a' hA => hA.unwanted (j := 19) (dj := 76) (b := true) (v := .bool false) rfl (by kernel_rfl) (by decide) rfl (by intro h; cases h)) ?_
    clear hF
    intro a hF
    refine skip_fs 22 [35] (oi := { dst := some 79, op := Op.move (Operand.tmp 78), type := 4, pos := "ref.go:70", after := #[{ on := 21, ground := Ground.data }, { on := 19, ground := Ground.chain }, { on := 19, ground := Ground.guard }], guard := some (19, true) }) (d := 79) hF hQ hS rfl rfl (by decide) (by kernel_rfl) (by kernel_rfl) (by kernel_rfl) (by kernel_rfl) (fun a' hA => hA.unwanted (j := 19) (dj := 76) (b := true) (v := .bool false) rfl (by kernel_rfl) (by decide) rfl (by intro h; cases h)) ?_
    clear hF
    intro a hF
    refine skip_fs 23 [35] (oi := { dst := some 80, op := Op.fieldAddr 25 (Operand.tmp 6) 2, type := 0, pos := "ref.go:70", after := #[{ on := 22, ground := Ground.guard }], guard := some (22, false) }) (d := 80) hF hQ hS rfl rfl (by decide) (by kernel_rfl) (by kernel_rfl) (by kernel_rfl) (by kernel_rfl) (fun a' hA => hA.unwanted (j := 22) (dj := 79) (b := false) (v := undef) rfl (by kernel_rfl) (by decide) rfl (by intro h; cases h)) ?_
    clear hF
    intro a hF
    refine skip_fs 24 [35] (oi := { dst := some 81, op := Op.load 3 (Operand.tmp 80), type := 3, pos := "ref.go:70", after := #[{ on := 23, ground := Ground.data }, { on := 22, ground := Ground.guard }], guard := some (22, false) }) (d := 81) hF hQ hS rfl rfl (by decide) (by kernel_rfl) (by kernel_rfl) (by kernel_rfl) (by kernel_rfl) (fun a' hA => hA.unwanted (j := 22) (dj := 79) (b := false) (v := undef) rfl (by kernel_rfl) (by decide) rfl (by intro h; cases h)) ?_
    clear hF
    intro a hF
    refine skip_fs 25 [35] (oi := { dst := some 82, op := Op.fieldAddr 25 (Operand.tmp 1) 5, type := 0, pos := "ref.go:70", after := #[{ on := 22, ground := Ground.guard }], guard := some (22, false) }) (d := 82) hF hQ hS rfl rfl (by decide) (by kernel_rfl) (by kernel_rfl) (by kernel_rfl) (by kernel_rfl) (fun a' hA => hA.unwanted (j := 22) (dj := 79) (b := false) (v := undef) rfl (by kernel_rfl) (by decide) rfl (by intro h; cases h)) ?_
    clear hF
    intro a hF
    refine skip_fs 26 [35] (oi := { dst := some 83, op := Op.load 23 (Operand.tmp 82), type := 23, pos := "ref.go:70", after := #[{ on := 25, ground := Ground.data }, { on := 22, ground := Ground.guard }], guard := some (22, false) }) (d := 83) hF hQ hS rfl rfl (by decide) (by kernel_rfl) (by kernel_rfl) (by kernel_rfl) (by kernel_rfl) (fun a' hA => hA.unwanted (j := 22) (dj := 79) (b := false) (v := undef) rfl (by kernel_rfl) (by decide) rfl (by intro h; cases h)) ?_
    clear hF
    intro a hF
    refine skip_fs 27 [35] (oi := { dst := some 84, op := Op.move (Operand.tmp 5), type := 3, pos := "ref.go:70", after := #[{ on := 22, ground := Ground.guard }], guard := some (22, false) }) (d := 84) hF hQ hS rfl rfl (by decide) (by kernel_rfl) (by kernel_rfl) (by kernel_rfl) (by kernel_rfl) (fun a' hA => hA.unwanted (j := 22) (dj := 79) (b := false) (v := undef) rfl (by kernel_rfl) (by decide) rfl (by intro h; cases h)) ?_
    clear hF
    intro a hF
    refine skip_fs 28 [35] (oi := { dst := some 85, op := Op.binOp BinOp.sub 3 (Operand.tmp 84) (Operand.const (Value.int IntKind.i64 1)) 3, type := 3, pos := "ref.go:70", after := #[{ on := 27, ground := Ground.data }, { on := 22, ground := Ground.guard }], guard := some (22, false) }) (d := 85) hF hQ hS rfl rfl (by decide) (by kernel_rfl) (by kernel_rfl) (by kernel_rfl) (by kernel_rfl) (fun a' hA => hA.unwanted (j := 22) (dj := 79) (b := false) (v := undef) rfl (by kernel_rfl) (by decide) rfl (by intro h; cases h)) ?_
    clear hF
    intro a hF
    refine skip_fs 29 [35] (oi := { dst := some 86, op := Op.indexAddr 23 (Operand.tmp 83) (Operand.tmp 85), type := 0, pos := "ref.go:70", after := #[{ on := 26, ground := Ground.data }, { on := 28, ground := Ground.data }, { on := 22, ground := Ground.guard }], guard := some (22, false) }) (d := 86) hF hQ hS rfl rfl (by decide) (by kernel_rfl) (by kernel_rfl) (by kernel_rfl) (by kernel_rfl) (fun a' hA => hA.unwanted (j := 22) (dj := 79) (b := false) (v := undef) rfl (by kernel_rfl) (by decide) rfl (by intro h; cases h)) ?_
    clear hF
    intro a hF
    refine skip_fs 30 [35] (oi := { dst := some 87, op := Op.fieldAddr 25 (Operand.tmp 86) 3, type := 0, pos := "ref.go:70", after := #[{ on := 29, ground := Ground.data }, { on := 22, ground := Ground.guard }], guard := some (22, false) }) (d := 87) hF hQ hS rfl rfl (by decide) (by kernel_rfl) (by kernel_rfl) (by kernel_rfl) (by kernel_rfl) (fun a' hA => hA.unwanted (j := 22) (dj := 79) (b := false) (v := undef) rfl (by kernel_rfl) (by decide) rfl (by intro h; cases h)) ?_
    clear hF
    intro a hF
    refine skip_fs 31 [35] (oi := { dst := some 88, op := Op.load 3 (Operand.tmp 87), type := 3, pos := "ref.go:70", after := #[{ on := 30, ground := Ground.data }, { on := 22, ground := Ground.guard }], guard := some (22, false) }) (d := 88) hF hQ hS rfl rfl (by decide) (by kernel_rfl) (by kernel_rfl) (by kernel_rfl) (by kernel_rfl) (fun a' hA => hA.unwanted (j := 22) (dj := 79) (b := false) (v := undef) rfl (by kernel_rfl) (by decide) rfl (by intro h; cases h)) ?_
    clear hF
    intro a hF
    refine skip_fs 32 [35] (oi := { dst := some 89, op := Op.binOp BinOp.geq 3 (Operand.tmp 81) (Operand.tmp 88) 3, type := 4, pos := "ref.go:70", after := #[{ on := 24, ground := Ground.data }, { on := 31, ground := Ground.data }, { on := 22, ground := Ground.guard }], guard := some (22, false) }) (d := 89) hF hQ hS rfl rfl (by decide) (by kernel_rfl) (by kernel_rfl) (by kernel_rfl) (by kernel_rfl) (fun a' hA => hA.unwanted (j := 22) (dj := 79) (b := false) (v := undef) rfl (by kernel_rfl) (by decide) rfl (by intro h; cases h)) ?_
    clear hF
    intro a hF
    refine skip_fs 33 [35] (oi := { dst := some 90, op := Op.pick (Operand.tmp 79) (Operand.const (Value.bool true)) (Operand.tmp 89), type := 4, pos := "ref.go:70", after := #[{ on := 22, ground := Ground.data }, { on := 32, ground := Ground.data }, { on := 19, ground := Ground.guard }], guard := some (19, true) }) (d := 90) hF hQ hS rfl rfl (by decide) (by kernel_rfl) (by kernel_rfl) (by kernel_rfl) (by kernel_rfl) (fun a' hA => hA.unwanted (j := 19) (dj := 76) (b := true) (v := .bool false) rfl (by kernel_rfl) (by decide) rfl (by intro h; cases h)) ?_
    clear hF
    intro a hF
    refine take_fs' 34 [35] (oi := { dst := some 91, op := Op.pick (Operand.tmp 76) (Operand.tmp 90) (Operand.const (Value.bool false)), type := 4, pos := "ref.go:70", after := #[{ on := 19, ground := Ground.data }, { on := 33, ground := Ground.data }], guard := none }) (d := 91) (v := .bool false) hF hQ hS rfl rfl (by decide) (by kernel_rfl) (by kernel_rfl) (by kernel_rfl) (by kernel_rfl) (fun a' hA => wanted_none rfl) (fun a' hA w' hw => by have e76 := hA.get 76 rfl; have e90 := hA.get 90 rfl; have ec : ∀ v, a'.eval (.const v) = v := fun _ => rfl; clear hA; generalize a'.eval = ρ at *; simp [go_sem, ec, e76, e90]; try rfl) ?_
    clear hF
    intro a hF
    refine last_fs 35 (oi := { dst := some 3, op := Op.assign (Operand.tmp 91), type := 4, pos := "ref.go:70", after := #[{ on := 34, ground := Ground.data }, { on := 22, ground := Ground.chain }, { on := 0, ground := Ground.phase }, { on := 1, ground := Ground.phase }, { on := 2, ground := Ground.phase }, { on := 3, ground := Ground.phase }, { on := 4, ground := Ground.phase }, { on := 5, ground := Ground.phase }, { on := 6, ground := Ground.phase }, { on := 7, ground := Ground.phase }, { on := 8, ground := Ground.phase }, { on := 9, ground := Ground.phase }, { on := 10, ground := Ground.phase }, { on := 11, ground := Ground.phase }, { on := 12, ground := Ground.phase }, { on := 13, ground := Ground.phase }, { on := 14, ground := Ground.phase }, { on := 15, ground := Ground.phase }, { on := 16, ground := Ground.phase }, { on := 17, ground := Ground.phase }, { on := 18, ground := Ground.phase }, { on := 19, ground := Ground.phase }, { on := 20, ground := Ground.phase }, { on := 21, ground := Ground.phase }, { on := 22, ground := Ground.phase }, { on := 23, ground := Ground.phase }, { on := 24, ground := Ground.phase }, { on := 25, ground := Ground.phase }, { on := 26, ground := Ground.phase }, { on := 27, ground := Ground.phase }, { on := 28, ground := Ground.phase }, { on := 29, ground := Ground.phase }, { on := 30, ground := Ground.phase }, { on := 31, ground := Ground.phase }, { on := 32, ground := Ground.phase }, { on := 33, ground := Ground.phase }, { on := 34, ground := Ground.phase }], guard := none }) (d := 3) (v := .bool false) hF rfl rfl (by decide) (by kernel_rfl) (by kernel_rfl) (by kernel_rfl) (fun a' hA => wanted_none rfl) (fun a' hA => by rw [BigFrame.run_assign (.tmp 91) rfl, hA.get 91 rfl]) ?_
    intro a' hF'
    exact H a' _ (by rw [hres]; exact Fs.of hF'.1 hF'.2.1 (by simp only [List.forall_mem_cons]; exact ⟨hF'.get 1 rfl, hF'.get 3 rfl, hF'.get 5 rfl, hF'.get 6 rfl, by simp⟩)) (fun k v h1 h3 h5 h6 hk => by
      have hkk := hLx k v hk
      refine hF'.2.2 k v ?_
      simp only [List.cons_append, List.nil_append]
      rw [look_skip (by omega)]
      rw [look_skip (by omega)]
      rw [look_skip (by omega)]
      rw [look_skip (by omega)]
      rw [look_skip (by omega)]
      rw [look_skip (by omega)]
      rw [look_skip (by omega)]
      rw [look_skip (by omega)]
      rw [look_skip (by omega)]
      rw [look_skip (by omega)]
      rw [look_skip (by omega)]
      rw [look_skip (by omega)]
      rw [look_skip (by omega)]
      rw [look_skip (by omega)]
      rw [look_skip (by omega)]
      rw [look_skip (by omega)]
      rw [look_skip (by omega)]
      rw [look_skip (by omega)]
      rw [look_skip (by omega)]
      rw [look_skip (by omega)]
      rw [look_skip (by omega)]
      rw [look_skip (by omega)]
      rw [look_skip (by omega)]
      rw [look_skip (by omega)]
      rw [look_skip (by omega)]
      rw [look_skip (by omega)]
      rw [look_skip (by omega)]
      rw [look_skip (by omega)]
      rw [look_skip (by omega)]
      rw [look_skip (by omega)]
      rw [look_skip (by omega)]
      rw [look_skip (by omega)]
      rw [look_skip (by omega)]
      rw [look_skip (by omega)]
      rw [look_skip (by omega)]
      rw [look_skip (by omega)]
      rw [look_skip (by omega)]
      rw [look_skip (by omega)]
      rw [look_skip (by omega)]
      rw [look_skip (by omega)]
      exact hk) hS

set_option maxRecDepth 20000 in
set_option maxHeartbeats 4000000 in
theorem right10_3 {Q : Exit → Act → World → Prop} {a : Act} {w : World} {bb kb b1 off kn kc i : Nat} {f t xk xm xf xt : Int} {xnp : Option Addr} {xnn xnc : Nat} {xkp : Option Addr} {xkn xkc : Nat} {pt : Int} {rv : Bool} {Lx : List (Nat × Value)}
    (h : R10 w bb kb b1 off kn kc i f t xk xm xf xt xnp xnn xnc xkp xkn xkc pt true rv) (hrv : rv = true) (hc1 : f ≤ xf) (hc2 : ¬ xt ≤ t)
    (hF : Fs a 93 ([(1, .pointer (some ⟨bb, 0, none⟩)), (3, .bool true), (5, .int .i64 (i : Int)), (6, .pointer (some ⟨kb, 0, none⟩))] ++ Lx))
    (hLx : ∀ k v, Lx.lookup k = some v → k < 57 ∨ 92 ≤ k)
    (hQ : ∀ c (a a' : Act) w, a'.defers = a.defers → Q (.panic c) a w → Q (.panic c) a' w)
    (H : ∀ a' w', Fs a' 93 [(1, .pointer (some ⟨bb, 0, none⟩)), (3, .bool (kidOk true rv f t xf xt i pt)), (5, .int .i64 (i : Int)), (6, .pointer (some ⟨kb, 0, none⟩))] → (∀ k v, k ≠ 1 → k ≠ 3 → k ≠ 5 → k ≠ 6 → Lx.lookup k = some v → a'.eval (.tmp k) = v) → Below w.heap.size w w' → Q .normal a' w') :
    (Code.region 10 opsR10 true).wp Try.prog Q a w := by
    have hres : kidOk true rv f t xf xt i pt = false := by simp [kidOk, hrv, hc1, hc2]
    have HS := h.HS
    have HX := h.HX
    refine wp_region_till (fun W => Below w.heap.size w W) 35 (by kernel_rfl) ?_
    have hS : Below w.heap.size w w.drew := (Below.refl w.heap.size w).drew
    obtain ⟨wc, hwc⟩ : ∃ wc, wc = w.drew := ⟨_, rfl⟩
    rw [← hwc] at hS ⊢
    clear hwc
    refine take_fs' 0 [35] (oi := { dst := some 57, op := Op.move (Operand.tmp 3), type := 4, pos := "ref.go:70", after := #[], guard := none }) (d := 57) (v := .bool true) hF hQ hS rfl rfl (by decide) (by kernel_rfl) (by kernel_rfl) (by kernel_rfl) (by kernel_rfl) (fun a' hA => wanted_none rfl) (run_move_fs rfl rfl) ?_
    clear hF
    intro a hF
    refine take_fs' 1 [35] (oi := { dst := some 58, op := Op.move (Operand.tmp 57), type := 4, pos := "ref.go:70", after := #[{ on := 0, ground := Ground.data }], guard := none }) (d := 58) (v := .bool true) hF hQ hS rfl rfl (by decide) (by kernel_rfl) (by kernel_rfl) (by kernel_rfl) (by kernel_rfl) (fun a' hA => wanted_none rfl) (run_move_fs rfl rfl) ?_
    clear hF
    intro a hF
    refine take_fs' 2 [35] (oi := { dst := some 59, op := Op.load 25 (Operand.tmp 6), type := 25, pos := "ref.go:70", after := #[{ on := 1, ground := Ground.guard }], guard := some (1, true) }) (d := 59) (v := .agg #[.int .i64 xk, .int .i64 xm, .int .i64 xf, .int .i64 xt, .slice xnp xnn xnc, .slice xkp xkn xkc]) hF hQ hS rfl rfl (by decide) (by kernel_rfl) (by kernel_rfl) (by kernel_rfl) (by kernel_rfl) (fun a' hA => hA.wantedB (j := 1) (dj := 58) (b := true) rfl (by kernel_rfl) (by decide) rfl) (fun a' hA w' hw => by have e6 := hA.get 6 rfl; have ec : ∀ v, a'.eval (.const v) = v := fun _ => rfl; obtain ⟨b2, b3, b5, k0, k1, k2, k3, k4, k5⟩ := HS _ hw; clear hA; generalize a'.eval = ρ at *; simp [go_sem, ec, e6, b2, b3, b5, k0, k1, k2, k3, k4, k5]; try rfl) ?_
    clear hF
    intro a hF
    refine call_fs 3 (oi := { dst := some 60, op := Op.call { callee := Callee.value (Operand.func 27), args := #[Operand.tmp 59], argTypes := #[25] }, type := 4, pos := "ref.go:70", after := #[{ on := 2, ground := Ground.data }, { on := 1, ground := Ground.chain }, { on := 1, ground := Ground.guard }], guard := some (1, true) }) (d := 60) (R := fun v w' => v = .bool true) hF rfl rfl (by decide) (by kernel_rfl) (fun a' hA => hA.wantedB (j := 1) (dj := 58) (b := true) rfl (by kernel_rfl) (by decide) rfl) (fun a' hA => by have e59 := hA.get 59 rfl; have ef : ∀ f, a'.eval (.func f) = .func (.func f) #[] #[] := fun _ => rfl; clear hA; generalize a'.eval = ρ at *; simp [go_sem, ef, e59]) ((HX _ hS).mono ?_) ?_
    · rintro e w' ⟨rfl, hb⟩
      exact ⟨_, rfl, ret_val hrv, hS.trans (hb.mono hS.size)⟩
    clear hF
    rintro a v wd hF rfl hS
    refine take_fs' 4 [35] (oi := { dst := some 61, op := Op.pick (Operand.tmp 58) (Operand.tmp 60) (Operand.const (Value.bool false)), type := 4, pos := "ref.go:70", after := #[{ on := 1, ground := Ground.data }, { on := 3, ground := Ground.data }], guard := none }) (d := 61) (v := .bool true) hF hQ hS rfl rfl (by decide) (by kernel_rfl) (by kernel_rfl) (by kernel_rfl) (by kernel_rfl) (fun a' hA => wanted_none rfl) (fun a' hA w' hw => by have e58 := hA.get 58 rfl; have e60 := hA.get 60 rfl; have ec : ∀ v, a'.eval (.const v) = v := fun _ => rfl; clear hA; generalize a'.eval = ρ at *; simp [go_sem, ec, e58, e60]; try rfl) ?_
    clear hF
    intro a hF
    refine take_fs' 5 [35] (oi := { dst := some 62, op := Op.move (Operand.tmp 61), type := 4, pos := "ref.go:70", after := #[{ on := 4, ground := Ground.data }, { on := 3, ground := Ground.chain }], guard := none }) (d := 62) (v := .bool true) hF hQ hS rfl rfl (by decide) (by kernel_rfl) (by kernel_rfl) (by kernel_rfl) (by kernel_rfl) (fun a' hA => wanted_none rfl) (run_move_fs rfl rfl) ?_
    clear hF
    intro a hF
    refine take_fs' 6 [35] (oi := { dst := some 63, op := Op.fieldAddr 25 (Operand.tmp 6) 2, type := 0, pos := "ref.go:70", after := #[{ on := 5, ground := Ground.guard }], guard := some (5, true) }) (d := 63) (v := .pointer (some ⟨kb, 2, none⟩)) hF hQ hS rfl rfl (by decide) (by kernel_rfl) (by kernel_rfl) (by kernel_rfl) (by kernel_rfl) (fun a' hA => hA.wantedB (j := 5) (dj := 62) (b := true) rfl (by kernel_rfl) (by decide) rfl) (fun a' hA w' hw => by have e6 := hA.get 6 rfl; have ec : ∀ v, a'.eval (.const v) = v := fun _ => rfl; clear hA; generalize a'.eval = ρ at *; simp [go_sem, ec, e6]; try rfl) ?_
    clear hF
    intro a hF
    refine take_fs' 7 [35] (oi := { dst := some 64, op := Op.load 3 (Operand.tmp 63), type := 3, pos := "ref.go:70", after := #[{ on := 6, ground := Ground.data }, { on := 5, ground := Ground.guard }], guard := some (5, true) }) (d := 64) (v := .int .i64 xf) hF hQ hS rfl rfl (by decide) (by kernel_rfl) (by kernel_rfl) (by kernel_rfl) (by kernel_rfl) (fun a' hA => hA.wantedB (j := 5) (dj := 62) (b := true) rfl (by kernel_rfl) (by decide) rfl) (fun a' hA w' hw => by have e63 := hA.get 63 rfl; have ec : ∀ v, a'.eval (.const v) = v := fun _ => rfl; obtain ⟨b2, b3, b5, k0, k1, k2, k3, k4, k5⟩ := HS _ hw; clear hA; generalize a'.eval = ρ at *; simp [go_sem, ec, e63, b2, b3, b5, k0, k1, k2, k3, k4, k5]; try rfl) ?_
    clear hF
    intro a hF
    refine take_fs' 8 [35] (oi := { dst := some 65, op := Op.fieldAddr 25 (Operand.tmp 1) 2, type := 0, pos := "ref.go:70", after := #[{ on := 5, ground := Ground.guard }], guard := some (5, true) }) (d := 65) (v := .pointer (some ⟨bb, 2, none⟩)) hF hQ hS rfl rfl (by decide) (by kernel_rfl) (by kernel_rfl) (by kernel_rfl) (by kernel_rfl) (fun a' hA => hA.wantedB (j := 5) (dj := 62) (b := true) rfl (by kernel_rfl) (by decide) rfl) (fun a' hA w' hw => by have e1 := hA.get 1 rfl; have ec : ∀ v, a'.eval (.const v) = v := fun _ => rfl; clear hA; generalize a'.eval = ρ at *; simp [go_sem, ec, e1]; try rfl) ?_
    clear hF
    intro a hF
    refine take_fs' 9 [35] (oi := { dst := some 66, op := Op.load 3 (Operand.tmp 65), type := 3, pos := "ref.go:70", after := #[{ on := 8, ground := Ground.data }, { on := 5, ground := Ground.guard }], guard := some (5, true) }) (d := 66) (v := .int .i64 f) hF hQ hS rfl rfl (by decide) (by kernel_rfl) (by kernel_rfl) (by kernel_rfl) (by kernel_rfl) (fun a' hA => hA.wantedB (j := 5) (dj := 62) (b := true) rfl (by kernel_rfl) (by decide) rfl) (fun a' hA w' hw => by have e65 := hA.get 65 rfl; have ec : ∀ v, a'.eval (.const v) = v := fun _ => rfl; obtain ⟨b2, b3, b5, k0, k1, k2, k3, k4, k5⟩ := HS _ hw; clear hA; generalize a'.eval = ρ at *; simp [go_sem, ec, e65, b2, b3, b5, k0, k1, k2, k3, k4, k5]; try rfl) ?_
    clear hF
    intro a hF
    refine take_fs' 10 [35] (oi := { dst := some 67, op := Op.binOp BinOp.geq 3 (Operand.tmp 64) (Operand.tmp 66) 3, type := 4, pos := "ref.go:70", after := #[{ on := 7, ground := Ground.data }, { on := 9, ground := Ground.data }, { on := 5, ground := Ground.guard }], guard := some (5, true) }) (d := 67) (v := .bool true) hF hQ hS rfl rfl (by decide) (by kernel_rfl) (by kernel_rfl) (by kernel_rfl) (by kernel_rfl) (fun a' hA => hA.wantedB (j := 5) (dj := 62) (b := true) rfl (by kernel_rfl) (by decide) rfl) (fun a' hA w' hw => by have e64 := hA.get 64 rfl; have e66 := hA.get 66 rfl; have ec : ∀ v, a'.eval (.const v) = v := fun _ => rfl; clear hA; generalize a'.eval = ρ at *; simp [go_sem, ec, e64, e66, hc1]; try rfl) ?_
    clear hF
    intro a hF
    refine take_fs' 11 [35] (oi := { dst := some 68, op := Op.pick (Operand.tmp 62) (Operand.tmp 67) (Operand.const (Value.bool false)), type := 4, pos := "ref.go:70", after := #[{ on := 5, ground := Ground.data }, { on := 10, ground := Ground.data }], guard := none }) (d := 68) (v := .bool true) hF hQ hS rfl rfl (by decide) (by kernel_rfl) (by kernel_rfl) (by kernel_rfl) (by kernel_rfl) (fun a' hA => wanted_none rfl) (fun a' hA w' hw => by have e62 := hA.get 62 rfl; have e67 := hA.get 67 rfl; have ec : ∀ v, a'.eval (.const v) = v := fun _ => rfl; clear hA; generalize a'.eval = ρ at *; simp [go_sem, ec, e62, e67]; try rfl) ?_
    clear hF
    intro a hF
    refine take_fs' 12 [35] (oi := { dst := some 69, op := Op.move (Operand.tmp 68), type := 4, pos := "ref.go:70", after := #[{ on := 11, ground := Ground.data }, { on := 5, ground := Ground.chain }], guard := none }) (d := 69) (v := .bool true) hF hQ hS rfl rfl (by decide) (by kernel_rfl) (by kernel_rfl) (by kernel_rfl) (by kernel_rfl) (fun a' hA => wanted_none rfl) (run_move_fs rfl rfl) ?_
    clear hF
    intro a hF
    refine take_fs' 13 [35] (oi := { dst := some 70, op := Op.fieldAddr 25 (Operand.tmp 6) 3, type := 0, pos := "ref.go:70", after := #[{ on := 12, ground := Ground.guard }], guard := some (12, true) }) (d := 70) (v := .pointer (some ⟨kb, 3, none⟩)) hF hQ hS rfl rfl (by decide) (by kernel_rfl) (by kernel_rfl) (by kernel_rfl) (by kernel_rfl) (fun a' hA => hA.wantedB (j := 12) (dj := 69) (b := true) rfl (by kernel_rfl) (by decide) rfl) (fun a' hA w' hw => by have e6 := hA.get 6 rfl; have ec : ∀ v, a'.eval (.const v) = v := fun _ => rfl; clear hA; generalize a'.eval = ρ at *; simp [go_sem, ec, e6]; try rfl) ?_
    clear hF
    intro a hF
    refine take_fs' 14 [35] (oi := { dst := some 71, op := Op.load 3 (Operand.tmp 70), type := 3, pos := "ref.go:70", after := #[{ on := 13, ground := Ground.data }, { on := 12, ground := Ground.guard }], guard := some (12, true) }) (d := 71) (v := .int .i64 xt) hF hQ hS rfl rfl (by decide) (by kernel_rfl) (by kernel_rfl) (by kernel_rfl) (by kernel_rfl) (fun a' hA => hA.wantedB (j := 12) (dj := 69) (b := true) rfl (by kernel_rfl) (by decide) rfl) (fun a' hA w' hw => by have e70 := hA.get 70 rfl; have ec : ∀ v, a'.eval (.const v) = v := fun _ => rfl; obtain ⟨b2, b3, b5, k0, k1, k2, k3, k4, k5⟩ := HS _ hw; clear hA; generalize a'.eval = ρ at *; simp [go_sem, ec, e70, b2, b3, b5, k0, k1, k2, k3, k4, k5]; try rfl) ?_
    clear hF
    intro a hF
    refine take_fs' 15 [35] (oi := { dst := some 72, op := Op.fieldAddr 25 (Operand.tmp 1) 3, type := 0, pos := "ref.go:70", after := #[{ on := 12, ground := Ground.guard }], guard := some (12, true) }) (d := 72) (v := .pointer (some ⟨bb, 3, none⟩)) hF hQ hS rfl rfl (by decide) (by kernel_rfl) (by kernel_rfl) (by kernel_rfl) (by kernel_rfl) (fun a' hA => hA.wantedB (j := 12) (dj := 69) (b := true) rfl (by kernel_rfl) (by decide) rfl) (fun a' hA w' hw => by have e1 := hA.get 1 rfl; have ec : ∀ v, a'.eval (.const v) = v := fun _ => rfl; clear hA; generalize a'.eval = ρ at *; simp [go_sem, ec, e1]; try rfl) ?_
    clear hF
    intro a hF
    refine take_fs' 16 [35] (oi := { dst := some 73, op := Op.load 3 (Operand.tmp 72), type := 3, pos := "ref.go:70", after := #[{ on := 15, ground := Ground.data }, { on := 12, ground := Ground.guard }], guard := some (12, true) }) (d := 73) (v := .int .i64 t) hF hQ hS rfl rfl (by decide) (by kernel_rfl) (by kernel_rfl) (by kernel_rfl) (by kernel_rfl) (fun a' hA => hA.wantedB (j := 12) (dj := 69) (b := true) rfl (by kernel_rfl) (by decide) rfl) (fun a' hA w' hw => by have e72 := hA.get 72 rfl; have ec : ∀ v, a'.eval (.const v) = v := fun _ => rfl; obtain ⟨b2, b3, b5, k0, k1, k2, k3, k4, k5⟩ := HS _ hw; clear hA; generalize a'.eval = ρ at *; simp [go_sem, ec, e72, b2, b3, b5, k0, k1, k2, k3, k4, k5]; try rfl) ?_
    clear hF
    intro a hF
    refine take_fs' 17 [35] (oi := { dst := some 74, op := Op.binOp BinOp.leq 3 (Operand.tmp 71) (Operand.tmp 73) 3, type := 4, pos := "ref.go:70", after := #[{ on := 14, ground := Ground.data }, { on := 16, ground := Ground.data }, { on := 12, ground := Ground.guard }], guard := some (12, true) }) (d := 74) (v := .bool false) hF hQ hS rfl rfl (by decide) (by kernel_rfl) (by kernel_rfl) (by kernel_rfl) (by kernel_rfl) (fun a' hA => hA.wantedB (j := 12) (dj := 69) (b := true) rfl (by kernel_rfl) (by decide) rfl) (fun a' hA w' hw => by have e71 := hA.get 71 rfl; have e73 := hA.get 73 rfl; have ec : ∀ v, a'.eval (.const v) = v := fun _ => rfl; clear hA; generalize a'.eval = ρ at *; simp [go_sem, ec, e71, e73, hc2]; try rfl) ?_
    clear hF
    intro a hF
    refine take_fs' 18 [35] (oi := { dst := some 75, op := Op.pick (Operand.tmp 69) (Operand.tmp 74) (Operand.const (Value.bool false)), type := 4, pos := "ref.go:70", after := #[{ on := 12, ground := Ground.data }, { on := 17, ground := Ground.data }], guard := none }) (d := 75) (v := .bool false) hF hQ hS rfl rfl (by decide) (by kernel_rfl) (by kernel_rfl) (by kernel_rfl) (by kernel_rfl) (fun a' hA => wanted_none rfl) (fun a' hA w' hw => by have e69 := hA.get 69 rfl; have e74 := hA.get 74 rfl; have ec : ∀ v, a'.eval (.const v) = v := fun _ => rfl; clear hA; generalize a'.eval = ρ at *; simp [go_sem, ec, e69, e74]; try rfl) ?_
    clear hF
    intro a hF
    refine take_fs' 19 [35] (oi := { dst := some 76, op := Op.move (Operand.tmp 75), type := 4, pos := "ref.go:70", after := #[{ on := 18, ground := Ground.data }, { on := 12, ground := Ground.chain }], guard := none }) (d := 76) (v := .bool false) hF hQ hS rfl rfl (by decide) (by kernel_rfl) (by kernel_rfl) (by kernel_rfl) (by kernel_rfl) (fun a' hA => wanted_none rfl) (run_move_fs rfl rfl) ?_
    clear hF
    intro a hF
    refine skip_fs 20 [35] (oi := { dst := some 77, op := Op.move (Operand.tmp 5), type := 3, pos := "ref.go:70", after := #[{ on := 19, ground := Ground.guard }], guard := some (19, true) }) (d := 77) hF hQ hS rfl rfl (by decide) (by kernel_rfl) (by kernel_rfl) (by kernel_rfl) (by kernel_rfl) (fun a' hA => hA.unwanted (j := 19) (dj := 76) (b := true) (v := .bool false) rfl (by kernel_rfl) (by decide) rfl (by intro h; cases h)) ?_
    clear hF
    intro a hF
    refine skip_fs 21 [35] (oi := { dst := some 78, op := Op.binOp BinOp.eql 3 (Operand.tmp 77) (Operand.const (Value.int IntKind.i64 0)) 3, type := 4, pos := "ref.go:70", after := #[{ on := 20, ground := Ground.data }, { on := 19, ground := Ground.guard }], guard := some (19, true) }) (d := 78) hF hQ hS rfl rfl (by decide) (by kernel_rfl) (by kernel_rfl) (by kernel_rfl) (by kernel_rfl) (fun a' hA => hA.unwanted (j := 19) (dj := 76) (b := true) (v := .bool false) rfl (by kernel_rfl) (by decide) rfl (by intro h; cases h)) ?_
    clear hF
    intro a hF
    refine skip_fs 22 [35] (oi := { dst := some 79, op := Op.move (Operand.tmp 78), type := 4, pos := "ref.go:70", after := #[{ on := 21, ground := Ground.data }, { on := 19, ground := Ground.chain }, { on := 19, ground := Ground.guard }], guard := some (19, true) }) (d := 79) hF hQ hS rfl rfl (by decide) (by kernel_rfl) (by kernel_rfl) (by kernel_rfl) (by kernel_rfl) (fun a' hA => hA.unwanted (j := 19) (dj := 76) (b := true) (v := .bool false) rfl (by kernel_rfl) (by decide) rfl (by intro h; cases h)) ?_
    clear hF
    intro a hF
    refine skip_fs 23 [35] (oi := { dst := some 80, op := Op.fieldAddr 25 (Operand.tmp 6) 2, type := 0, pos := "ref.go:70", after := #[{ on := 22, ground := Ground.guard }], guard := some (22, false) }) (d := 80) hF hQ hS rfl rfl (by decide) (by kernel_rfl) (by kernel_rfl) (by kernel_rfl) (by kernel_rfl) (fun a' hA => hA.unwanted (j := 22) (dj := 79) (b := false) (v := undef) rfl (by kernel_rfl) (by decide) rfl (by intro h; cases h)) ?_
    clear hF
    intro a hF
    refine skip_fs 24 [35] (oi := { dst := some 81, op := Op.load 3 (Operand.tmp 80), type := 3, pos := "ref.go:70", after := #[{ on := 23, ground := Ground.data }, { on := 22, ground := Ground.guard }], guard := some (22, false) }) (d := 81) hF hQ hS rfl rfl (by decide) (by kernel_rfl) (by kernel_rfl) (by kernel_rfl) (by kernel_rfl) (fun a' hA => hA.unwanted (j := 22) (dj := 79) (b := false) (v := undef) rfl (by kernel_rfl) (by decide) rfl (by intro h; cases h)) ?_
    clear hF
    intro a hF
    refine skip_fs 25 [35] (oi := { dst := some 82, op := Op.fieldAddr 25 (Operand.tmp 1) 5, type := 0, pos := "ref.go:70", after := #[{ on := 22, ground := Ground.guard }], guard := some (22, false) }) (d := 82) hF hQ hS rfl rfl (by decide) (by kernel_rfl) (by kernel_rfl) (by kernel_rfl) (by kernel_rfl) (fun a' hA => hA.unwanted (j := 22) (dj := 79) (b := false) (v := undef) rfl (by kernel_rfl) (by decide) rfl (by intro h; cases h)) ?_
    clear hF
    intro a hF
    refine skip_fs 26 [35] (oi := { dst := some 83, op := Op.load 23 (Operand.tmp 82), type := 23, pos := "ref.go:70", after := #[{ on := 25, ground := Ground.data }, { on := 22, ground := Ground.guard }], guard := some (22, false) }) (d := 83) hF hQ hS rfl rfl (by decide) (by kernel_rfl) (by kernel_rfl) (by kernel_rfl) (by kernel_rfl) (fun a' hA => hA.unwanted (j := 22) (dj := 79) (b := false) (v := undef) rfl (by kernel_rfl) (by decide) rfl (by intro h; cases h)) ?_
    clear hF
    intro a hF
    refine skip_fs 27 [35] (oi := { dst := some 84, op := Op.move (Operand.tmp 5), type := 3, pos := "ref.go:70", after := #[{ on := 22, ground := Ground.guard }], guard := some (22, false) }) (d := 84) hF hQ hS rfl rfl (by decide) (by kernel_rfl) (by kernel_rfl) (by kernel_rfl) (by kernel_rfl) (fun a' hA => hA.unwanted (j := 22) (dj := 79) (b := false) (v := undef) rfl (by kernel_rfl) (by decide) rfl (by intro h; cases h)) ?_
    clear hF
    intro a hF
    refine skip_fs 28 [35] (oi := { dst := some 85, op := Op.binOp BinOp.sub 3 (Operand.tmp 84) (Operand.const (Value.int IntKind.i64 1)) 3, type := 3, pos := "ref.go:70", after := #[{ on := 27, ground := Ground.data }, { on := 22, ground := Ground.guard }], guard := some (22, false) }) (d := 85) hF hQ hS rfl rfl (by decide) (by kernel_rfl) (by kernel_rfl) (by kernel_rfl) (by kernel_rfl) (fun a' hA => hA.unwanted (j := 22) (dj := 79) (b := false) (v := undef) rfl (by kernel_rfl) (by decide) rfl (by intro h; cases h)) ?_
    clear hF
    intro a hF
    refine skip_fs 29 [35] (oi := { dst := some 86, op := Op.indexAddr 23 (Operand.tmp 83) (Operand.tmp 85), type := 0, pos := "ref.go:70", after := #[{ on := 26, ground := Ground.data }, { on := 28, ground := Ground.data }, { on := 22, ground := Ground.guard }], guard := some (22, false) }) (d := 86) hF hQ hS rfl rfl (by decide) (by kernel_rfl) (by kernel_rfl) (by kernel_rfl) (by kernel_rfl) (fun a' hA => hA.unwanted (j := 22) (dj := 79) (b := false) (v := undef) rfl (by kernel_rfl) (by decide) rfl (by intro h; cases h)) ?_
    clear hF
    intro a hF
    refine skip_fs 30 [35] (oi := { dst := some 87, op := Op.fieldAddr 25 (Operand.tmp 86) 3, type := 0, pos := "ref.go:70", after := #[{ on := 29, ground := Ground.data }, { on := 22, ground := Ground.guard }], guard := some (22, false) }) (d := 87) hF hQ hS rfl rfl (by decide) (by kernel_rfl) (by kernel_rfl) (by kernel_rfl) (by kernel_rfl) (fun a' hA => hA.unwanted (j := 22) (dj := 79) (b := false) (v := undef) rfl (by kernel_rfl) (by decide) rfl (by intro h; cases h)) ?_
    clear hF
    intro a hF
    refine skip_fs 31 [35] (oi := { dst := some 88, op := Op.load 3 (Operand.tmp 87), type := 3, pos := "ref.go:70", after := #[{ on := 30, ground := Ground.data }, { on := 22, ground := Ground.guard }], guard := some (22, false) }) (d := 88) hF hQ hS rfl rfl (by decide) (by kernel_rfl) (by kernel_rfl) (by kernel_rfl) (by kernel_rfl) (fun a' hA => hA.unwanted (j := 22) (dj := 79) (b := false) (v := undef) rfl (by kernel_rfl) (by decide) rfl (by intro h; cases h)) ?_
    clear hF
    intro a hF
    refine skip_fs 32 [35] (oi := { dst := some 89, op := Op.binOp BinOp.geq 3 (Operand.tmp 81) (Operand.tmp 88) 3, type := 4, pos := "ref.go:70", after := #[{ on := 24, ground := Ground.data }, { on := 31, ground := Ground.data }, { on := 22, ground := Ground.guard }], guard := some (22, false) }) (d := 89) hF hQ hS rfl rfl (by decide) (by kernel_rfl) (by kernel_rfl) (by kernel_rfl) (by kernel_rfl) (fun a' hA => hA.unwanted (j := 22) (dj := 79) (b := false) (v := undef) rfl (by kernel_rfl) (by decide) rfl (by intro h; cases h)) ?_
    clear hF
    intro a hF
    refine skip_fs 33 [35] (oi := { dst := some 90, op := Op.pick (Operand.tmp 79) (Operand.const (Value.bool true)) (Operand.tmp 89), type := 4, pos := "ref.go:70", after := #[{ on := 22, ground := Ground.data }, { on := 32, ground := Ground.data }, { on := 19, ground := Ground.guard }], guard := some (19, true) }) (d := 90) hF hQ hS rfl rfl (by decide) (by kernel_rfl) (by kernel_rfl) (by kernel_rfl) (by kernel_rfl) (fun a' hA => hA.unwanted (j := 19) (dj := 76) (b := true) (v := .bool false) rfl (by kernel_rfl) (by decide) rfl (by intro h; cases h)) ?_
    clear hF
    intro a hF
    refine take_fs' 34 [35] (oi := { dst := some 91, op := Op.pick (Operand.tmp 76) (Operand.tmp 90) (Operand.const (Value.bool false)), type := 4, pos := "ref.go:70", after := #[{ on := 19, ground := Ground.data }, { on := 33, ground := Ground.data }], guard := none }) (d := 91) (v := .bool false) hF hQ hS rfl rfl (by decide) (by kernel_rfl) (by kernel_rfl) (by kernel_rfl) (by kernel_rfl) (fun a' hA => wanted_none rfl) (fun a' hA w' hw => by have e76 := hA.get 76 rfl; have e90 := hA.get 90 rfl; have ec : ∀ v, a'.eval (.const v) = v := fun _ => rfl; clear hA; generalize a'.eval = ρ at *; simp [go_sem, ec, e76, e90]; try rfl) ?_
    clear hF
    intro a hF
    refine last_fs 35 (oi := { dst := some 3, op := Op.assign (Operand.tmp 91), type := 4, pos := "ref.go:70", after := #[{ on := 34, ground := Ground.data }, { on := 22, ground := Ground.chain }, { on := 0, ground := Ground.phase }, { on := 1, ground := Ground.phase }, { on := 2, ground := Ground.phase }, { on := 3, ground := Ground.phase }, { on := 4, ground := Ground.phase }, { on := 5, ground := Ground.phase }, { on := 6, ground := Ground.phase }, { on := 7, ground := Ground.phase }, { on := 8, ground := Ground.phase }, { on := 9, ground := Ground.phase }, { on := 10, ground := Ground.phase }, { on := 11, ground := Ground.phase }, { on := 12, ground := Ground.phase }, { on := 13, ground := Ground.phase }, { on := 14, ground := Ground.phase }, { on := 15, ground := Ground.phase }, { on := 16, ground := Ground.phase }, { on := 17, ground := Ground.phase }, { on := 18, ground := Ground.phase }, { on := 19, ground := Ground.phase }, { on := 20, ground := Ground.phase }, { on := 21, ground := Ground.phase }, { on := 22, ground := Ground.phase }, { on := 23, ground := Ground.phase }, { on := 24, ground := Ground.phase }, { on := 25, ground := Ground.phase }, { on := 26, ground := Ground.phase }, { on := 27, ground := Ground.phase }, { on := 28, ground := Ground.phase }, { on := 29, ground := Ground.phase }, { on := 30, ground := Ground.phase }, { on := 31, ground := Ground.phase }, { on := 32, ground := Ground.phase }, { on := 33, ground := Ground.phase }, { on := 34, ground := Ground.phase }], guard := none }) (d := 3) (v := .bool false) hF rfl rfl (by decide) (by kernel_rfl) (by kernel_rfl) (by kernel_rfl) (fun a' hA => wanted_none rfl) (fun a' hA => by rw [BigFrame.run_assign (.tmp 91) rfl, hA.get 91 rfl]) ?_
    intro a' hF'
    exact H a' _ (by rw [hres]; exact Fs.of hF'.1 hF'.2.1 (by simp only [List.forall_mem_cons]; exact ⟨hF'.get 1 rfl, hF'.get 3 rfl, hF'.get 5 rfl, hF'.get 6 rfl, by simp⟩)) (fun k v h1 h3 h5 h6 hk => by
      have hkk := hLx k v hk
      refine hF'.2.2 k v ?_
      simp only [List.cons_append, List.nil_append]
      rw [look_skip (by omega)]
      rw [look_skip (by omega)]
      rw [look_skip (by omega)]
      rw [look_skip (by omega)]
      rw [look_skip (by omega)]
      rw [look_skip (by omega)]
      rw [look_skip (by omega)]
      rw [look_skip (by omega)]
      rw [look_skip (by omega)]
      rw [look_skip (by omega)]
      rw [look_skip (by omega)]
      rw [look_skip (by omega)]
      rw [look_skip (by omega)]
      rw [look_skip (by omega)]
      rw [look_skip (by omega)]
      rw [look_skip (by omega)]
      rw [look_skip (by omega)]
      rw [look_skip (by omega)]
      rw [look_skip (by omega)]
      rw [look_skip (by omega)]
      rw [look_skip (by omega)]
      rw [look_skip (by omega)]
      rw [look_skip (by omega)]
      rw [look_skip (by omega)]
      rw [look_skip (by omega)]
      rw [look_skip (by omega)]
      rw [look_skip (by omega)]
      rw [look_skip (by omega)]
      rw [look_skip (by omega)]
      rw [look_skip (by omega)]
      rw [look_skip (by omega)]
      rw [look_skip (by omega)]
      rw [look_skip (by omega)]
      rw [look_skip (by omega)]
      rw [look_skip (by omega)]
      rw [look_skip (by omega)]
      rw [look_skip (by omega)]
      rw [look_skip (by omega)]
      rw [look_skip (by omega)]
      rw [look_skip (by omega)]
      exact hk) hS

set_option maxRecDepth 20000 in
set_option maxHeartbeats 4000000 in
theorem right10_4 {Q : Exit → Act → World → Prop} {a : Act} {w : World} {bb kb b1 off kn kc i : Nat} {f t xk xm xf xt : Int} {xnp : Option Addr} {xnn xnc : Nat} {xkp : Option Addr} {xkn xkc : Nat} {pt : Int} {rv : Bool} {Lx : List (Nat × Value)}
    (h : R10 w bb kb b1 off kn kc i f t xk xm xf xt xnp xnn xnc xkp xkn xkc pt true rv) (hrv : rv = true) (hc1 : f ≤ xf) (hc2 : xt ≤ t) (hi0 : i = 0)
    (hF : Fs a 93 ([(1, .pointer (some ⟨bb, 0, none⟩)), (3, .bool true), (5, .int .i64 (i : Int)), (6, .pointer (some ⟨kb, 0, none⟩))] ++ Lx))
    (hLx : ∀ k v, Lx.lookup k = some v → k < 57 ∨ 92 ≤ k)
    (hQ : ∀ c (a a' : Act) w, a'.defers = a.defers → Q (.panic c) a w → Q (.panic c) a' w)
    (H : ∀ a' w', Fs a' 93 [(1, .pointer (some ⟨bb, 0, none⟩)), (3, .bool (kidOk true rv f t xf xt i pt)), (5, .int .i64 (i : Int)), (6, .pointer (some ⟨kb, 0, none⟩))] → (∀ k v, k ≠ 1 → k ≠ 3 → k ≠ 5 → k ≠ 6 → Lx.lookup k = some v → a'.eval (.tmp k) = v) → Below w.heap.size w w' → Q .normal a' w') :
    (Code.region 10 opsR10 true).wp Try.prog Q a w := by
    have hres : kidOk true rv f t xf xt i pt = true := by simp [kidOk, hrv, hc1, hc2, hi0]
    have HS := h.HS
    have HX := h.HX
    subst hi0
    have hz : ((0 : Nat) : Int) = 0 := rfl
    refine wp_region_till (fun W => Below w.heap.size w W) 35 (by kernel_rfl) ?_
    have hS : Below w.heap.size w w.drew := (Below.refl w.heap.size w).drew
    obtain ⟨wc, hwc⟩ : ∃ wc, wc = w.drew := ⟨_, rfl⟩
    rw [← hwc] at hS ⊢
    clear hwc
    refine take_fs' 0 [35] (oi := { dst := some 57, op := Op.move (Operand.tmp 3), type := 4, pos := "ref.go:70", after := #[], guard := none }) (d := 57) (v := .bool true) hF hQ hS rfl rfl (by decide) (by kernel_rfl) (by kernel_rfl) (by kernel_rfl) (by kernel_rfl) (fun a' hA => wanted_none rfl) (run_move_fs rfl rfl) ?_
    clear hF
    intro a hF
    refine take_fs' 1 [35] (oi := { dst := some 58, op := Op.move (Operand.tmp 57), type := 4, pos := "ref.go:70", after := #[{ on := 0, ground := Ground.data }], guard := none }) (d := 58) (v := .bool true) hF hQ hS rfl rfl (by decide) (by kernel_rfl) (by kernel_rfl) (by kernel_rfl) (by kernel_rfl) (fun a' hA => wanted_none rfl) (run_move_fs rfl rfl) ?_
    clear hF
    intro a hF
    refine take_fs' 2 [35] (oi := { dst := some 59, op := Op.load 25 (Operand.tmp 6), type := 25, pos := "ref.go:70", after := #[{ on := 1, ground := Ground.guard }], guard := some (1, true) }) (d := 59) (v := .agg #[.int .i64 xk, .int .i64 xm, .int .i64 xf, .int .i64 xt, .slice xnp xnn xnc, .slice xkp xkn xkc]) hF hQ hS rfl rfl (by decide) (by kernel_rfl) (by kernel_rfl) (by kernel_rfl) (by kernel_rfl) (fun a' hA => hA.wantedB (j := 1) (dj := 58) (b := true) rfl (by kernel_rfl) (by decide) rfl) (fun a' hA w' hw => by have e6 := hA.get 6 rfl; have ec : ∀ v, a'.eval (.const v) = v := fun _ => rfl; obtain ⟨b2, b3, b5, k0, k1, k2, k3, k4, k5⟩ := HS _ hw; clear hA; generalize a'.eval = ρ at *; simp [go_sem, ec, e6, b2, b3, b5, k0, k1, k2, k3, k4, k5]; try rfl) ?_
    clear hF
    intro a hF
    refine call_fs 3 (oi := { dst := some 60, op := Op.call { callee := Callee.value (Operand.func 27), args := #[Operand.tmp 59], argTypes := #[25] }, type := 4, pos := "ref.go:70", after := #[{ on := 2, ground := Ground.data }, { on := 1, ground := Ground.chain }, { on := 1, ground := Ground.guard }], guard := some (1, true) }) (d := 60) (R := fun v w' => v = .bool true) hF rfl rfl (by decide) (by kernel_rfl) (fun a' hA => hA.wantedB (j := 1) (dj := 58) (b := true) rfl (by kernel_rfl) (by decide) rfl) (fun a' hA => by have e59 := hA.get 59 rfl; have ef : ∀ f, a'.eval (.func f) = .func (.func f) #[] #[] := fun _ => rfl; clear hA; generalize a'.eval = ρ at *; simp [go_sem, ef, e59]) ((HX _ hS).mono ?_) ?_
    · rintro e w' ⟨rfl, hb⟩
      exact ⟨_, rfl, ret_val hrv, hS.trans (hb.mono hS.size)⟩
    clear hF
    rintro a v wd hF rfl hS
    refine take_fs' 4 [35] (oi := { dst := some 61, op := Op.pick (Operand.tmp 58) (Operand.tmp 60) (Operand.const (Value.bool false)), type := 4, pos := "ref.go:70", after := #[{ on := 1, ground := Ground.data }, { on := 3, ground := Ground.data }], guard := none }) (d := 61) (v := .bool true) hF hQ hS rfl rfl (by decide) (by kernel_rfl) (by kernel_rfl) (by kernel_rfl) (by kernel_rfl) (fun a' hA => wanted_none rfl) (fun a' hA w' hw => by have e58 := hA.get 58 rfl; have e60 := hA.get 60 rfl; have ec : ∀ v, a'.eval (.const v) = v := fun _ => rfl; clear hA; generalize a'.eval = ρ at *; simp [go_sem, ec, e58, e60]; try rfl) ?_
    clear hF
    intro a hF
    refine take_fs' 5 [35] (oi := { dst := some 62, op := Op.move (Operand.tmp 61), type := 4, pos := "ref.go:70", after := #[{ on := 4, ground := Ground.data }, { on := 3, ground := Ground.chain }], guard := none }) (d := 62) (v := .bool true) hF hQ hS rfl rfl (by decide) (by kernel_rfl) (by kernel_rfl) (by kernel_rfl) (by kernel_rfl) (fun a' hA => wanted_none rfl) (run_move_fs rfl rfl) ?_
    clear hF
    intro a hF
    refine take_fs' 6 [35] (oi := { dst := some 63, op := Op.fieldAddr 25 (Operand.tmp 6) 2, type := 0, pos := "ref.go:70", after := #[{ on := 5, ground := Ground.guard }], guard := some (5, true) }) (d := 63) (v := .pointer (some ⟨kb, 2, none⟩)) hF hQ hS rfl rfl (by decide) (by kernel_rfl) (by kernel_rfl) (by kernel_rfl) (by kernel_rfl) (fun a' hA => hA.wantedB (j := 5) (dj := 62) (b := true) rfl (by kernel_rfl) (by decide) rfl) (fun a' hA w' hw => by have e6 := hA.get 6 rfl; have ec : ∀ v, a'.eval (.const v) = v := fun _ => rfl; clear hA; generalize a'.eval = ρ at *; simp [go_sem, ec, e6]; try rfl) ?_
    clear hF
    intro a hF
    refine take_fs' 7 [35] (oi := { dst := some 64, op := Op.load 3 (Operand.tmp 63), type := 3, pos := "ref.go:70", after := #[{ on := 6, ground := Ground.data }, { on := 5, ground := Ground.guard }], guard := some (5, true) }) (d := 64) (v := .int .i64 xf) hF hQ hS rfl rfl (by decide) (by kernel_rfl) (by kernel_rfl) (by kernel_rfl) (by kernel_rfl) (fun a' hA => hA.wantedB (j := 5) (dj := 62) (b := true) rfl (by kernel_rfl) (by decide) rfl) (fun a' hA w' hw => by have e63 := hA.get 63 rfl; have ec : ∀ v, a'.eval (.const v) = v := fun _ => rfl; obtain ⟨b2, b3, b5, k0, k1, k2, k3, k4, k5⟩ := HS _ hw; clear hA; generalize a'.eval = ρ at *; simp [go_sem, ec, e63, b2, b3, b5, k0, k1, k2, k3, k4, k5]; try rfl) ?_
    clear hF
    intro a hF
    refine take_fs' 8 [35] (oi := { dst := some 65, op := Op.fieldAddr 25 (Operand.tmp 1) 2, type := 0, pos := "ref.go:70", after := #[{ on := 5, ground := Ground.guard }], guard := some (5, true) }) (d := 65) (v := .pointer (some ⟨bb, 2, none⟩)) hF hQ hS rfl rfl (by decide) (by kernel_rfl) (by kernel_rfl) (by kernel_rfl) (by kernel_rfl) (fun a' hA => hA.wantedB (j := 5) (dj := 62) (b := true) rfl (by kernel_rfl) (by decide) rfl) (fun a' hA w' hw => by have e1 := hA.get 1 rfl; have ec : ∀ v, a'.eval (.const v) = v := fun _ => rfl; clear hA; generalize a'.eval = ρ at *; simp [go_sem, ec, e1]; try rfl) ?_
    clear hF
    intro a hF
    refine take_fs' 9 [35] (oi := { dst := some 66, op := Op.load 3 (Operand.tmp 65), type := 3, pos := "ref.go:70", after := #[{ on := 8, ground := Ground.data }, { on := 5, ground := Ground.guard }], guard := some (5, true) }) (d := 66) (v := .int .i64 f) hF hQ hS rfl rfl (by decide) (by kernel_rfl) (by kernel_rfl) (by kernel_rfl) (by kernel_rfl) (fun a' hA => hA.wantedB (j := 5) (dj := 62) (b := true) rfl (by kernel_rfl) (by decide) rfl) (fun a' hA w' hw => by have e65 := hA.get 65 rfl; have ec : ∀ v, a'.eval (.const v) = v := fun _ => rfl; obtain ⟨b2, b3, b5, k0, k1, k2, k3, k4, k5⟩ := HS _ hw; clear hA; generalize a'.eval = ρ at *; simp [go_sem, ec, e65, b2, b3, b5, k0, k1, k2, k3, k4, k5]; try rfl) ?_
    clear hF
    intro a hF
    refine take_fs' 10 [35] (oi := { dst := some 67, op := Op.binOp BinOp.geq 3 (Operand.tmp 64) (Operand.tmp 66) 3, type := 4, pos := "ref.go:70", after := #[{ on := 7, ground := Ground.data }, { on := 9, ground := Ground.data }, { on := 5, ground := Ground.guard }], guard := some (5, true) }) (d := 67) (v := .bool true) hF hQ hS rfl rfl (by decide) (by kernel_rfl) (by kernel_rfl) (by kernel_rfl) (by kernel_rfl) (fun a' hA => hA.wantedB (j := 5) (dj := 62) (b := true) rfl (by kernel_rfl) (by decide) rfl) (fun a' hA w' hw => by have e64 := hA.get 64 rfl; have e66 := hA.get 66 rfl; have ec : ∀ v, a'.eval (.const v) = v := fun _ => rfl; clear hA; generalize a'.eval = ρ at *; simp [go_sem, ec, e64, e66, hc1]; try rfl) ?_
    clear hF
    intro a hF
    refine take_fs' 11 [35] (oi := { dst := some 68, op := Op.pick (Operand.tmp 62) (Operand.tmp 67) (Operand.const (Value.bool false)), type := 4, pos := "ref.go:70", after := #[{ on := 5, ground := Ground.data }, { on := 10, ground := Ground.data }], guard := none }) (d := 68) (v := .bool true) hF hQ hS rfl rfl (by decide) (by kernel_rfl) (by kernel_rfl) (by kernel_rfl) (by kernel_rfl) (fun a' hA => wanted_none rfl) (fun a' hA w' hw => by have e62 := hA.get 62 rfl; have e67 := hA.get 67 rfl; have ec : ∀ v, a'.eval (.const v) = v := fun _ => rfl; clear hA; generalize a'.eval = ρ at *; simp [go_sem, ec, e62, e67]; try rfl) ?_
    clear hF
    intro a hF
    refine take_fs' 12 [35] (oi := { dst := some 69, op := Op.move (Operand.tmp 68), type := 4, pos := "ref.go:70", after := #[{ on := 11, ground := Ground.data }, { on := 5, ground := Ground.chain }], guard := none }) (d := 69) (v := .bool true) hF hQ hS rfl rfl (by decide) (by kernel_rfl) (by kernel_rfl) (by kernel_rfl) (by kernel_rfl) (fun a' hA => wanted_none rfl) (run_move_fs rfl rfl) ?_
    clear hF
    intro a hF
    refine take_fs' 13 [35] (oi := { dst := some 70, op := Op.fieldAddr 25 (Operand.tmp 6) 3, type := 0, pos := "ref.go:70", after := #[{ on := 12, ground := Ground.guard }], guard := some (12, true) }) (d := 70) (v := .pointer (some ⟨kb, 3, none⟩)) hF hQ hS rfl rfl (by decide) (by kernel_rfl) (by kernel_rfl) (by kernel_rfl) (by kernel_rfl) (fun a' hA => hA.wantedB (j := 12) (dj := 69) (b := true) rfl (by kernel_rfl) (by decide) rfl) (fun a' hA w' hw => by have e6 := hA.get 6 rfl; have ec : ∀ v, a'.eval (.const v) = v := fun _ => rfl; clear hA; generalize a'.eval = ρ at *; simp [go_sem, ec, e6]; try rfl) ?_
    clear hF
    intro a hF
    refine take_fs' 14 [35] (oi := { dst := some 71, op := Op.load 3 (Operand.tmp 70), type := 3, pos := "ref.go:70", after := #[{ on := 13, ground := Ground.data }, { on := 12, ground := Ground.guard }], guard := some (12, true) }) (d := 71) (v := .int .i64 xt) hF hQ hS rfl rfl (by decide) (by kernel_rfl) (by kernel_rfl) (by kernel_rfl) (by kernel_rfl) (fun a' hA => hA.wantedB (j := 12) (dj := 69) (b := true) rfl (by kernel_rfl) (by decide) rfl) (fun a' hA w' hw => by have e70 := hA.get 70 rfl; have ec : ∀ v, a'.eval (.const v) = v := fun _ => rfl; obtain ⟨b2, b3, b5, k0, k1, k2, k3, k4, k5⟩ := HS _ hw; clear hA; generalize a'.eval = ρ at *; simp [go_sem, ec, e70, b2, b3, b5, k0, k1, k2, k3, k4, k5]; try rfl) ?_
    clear hF
    intro a hF
    refine take_fs' 15 [35] (oi := { dst := some 72, op := Op.fieldAddr 25 (Operand.tmp 1) 3, type := 0, pos := "ref.go:70", after := #[{ on := 12, ground := Ground.guard }], guard := some (12, true) }) (d := 72) (v := .pointer (some ⟨bb, 3, none⟩)) hF hQ hS rfl rfl (by decide) (by kernel_rfl) (by kernel_rfl) (by kernel_rfl) (by kernel_rfl) (fun a' hA => hA.wantedB (j := 12) (dj := 69) (b := true) rfl (by kernel_rfl) (by decide) rfl) (fun a' hA w' hw => by have e1 := hA.get 1 rfl; have ec : ∀ v, a'.eval (.const v) = v := fun _ => rfl; clear hA; generalize a'.eval = ρ at *; simp [go_sem, ec, e1]; try rfl) ?_
    clear hF
    intro a hF
    refine take_fs' 16 [35] (oi := { dst := some 73, op := Op.load 3 (Operand.tmp 72), type := 3, pos := "ref.go:70", after := #[{ on := 15, ground := Ground.data }, { on := 12, ground := Ground.guard }], guard := some (12, true) }) (d := 73) (v := .int .i64 t) hF hQ hS rfl rfl (by decide) (by kernel_rfl) (by kernel_rfl) (by kernel_rfl) (by kernel_rfl) (fun a' hA => hA.wantedB (j := 12) (dj := 69) (b := true) rfl (by kernel_rfl) (by decide) rfl) (fun a' hA w' hw => by have e72 := hA.get 72 rfl; have ec : ∀ v, a'.eval (.const v) = v := fun _ => rfl; obtain ⟨b2, b3, b5, k0, k1, k2, k3, k4, k5⟩ := HS _ hw; clear hA; generalize a'.eval = ρ at *; simp [go_sem, ec, e72, b2, b3, b5, k0, k1, k2, k3, k4, k5]; try rfl) ?_
    clear hF
    intro a hF
    refine take_fs' 17 [35] (oi := { dst := some 74, op := Op.binOp BinOp.leq 3 (Operand.tmp 71) (Operand.tmp 73) 3, type := 4, pos := "ref.go:70", after := #[{ on := 14, ground := Ground.data }, { on := 16, ground := Ground.data }, { on := 12, ground := Ground.guard }], guard := some (12, true) }) (d := 74) (v := .bool true) hF hQ hS rfl rfl (by decide) (by kernel_rfl) (by kernel_rfl) (by kernel_rfl) (by kernel_rfl) (fun a' hA => hA.wantedB (j := 12) (dj := 69) (b := true) rfl (by kernel_rfl) (by decide) rfl) (fun a' hA w' hw => by have e71 := hA.get 71 rfl; have e73 := hA.get 73 rfl; have ec : ∀ v, a'.eval (.const v) = v := fun _ => rfl; clear hA; generalize a'.eval = ρ at *; simp [go_sem, ec, e71, e73, hc2]; try rfl) ?_
    clear hF
    intro a hF
    refine take_fs' 18 [35] (oi := { dst := some 75, op := Op.pick (Operand.tmp 69) (Operand.tmp 74) (Operand.const (Value.bool false)), type := 4, pos := "ref.go:70", after := #[{ on := 12, ground := Ground.data }, { on := 17, ground := Ground.data }], guard := none }) (d := 75) (v := .bool true) hF hQ hS rfl rfl (by decide) (by kernel_rfl) (by kernel_rfl) (by kernel_rfl) (by kernel_rfl) (fun a' hA => wanted_none rfl) (fun a' hA w' hw => by have e69 := hA.get 69 rfl; have e74 := hA.get 74 rfl; have ec : ∀ v, a'.eval (.const v) = v := fun _ => rfl; clear hA; generalize a'.eval = ρ at *; simp [go_sem, ec, e69, e74]; try rfl) ?_
    clear hF
    intro a hF
    refine take_fs' 19 [35] (oi := { dst := some 76, op := Op.move (Operand.tmp 75), type := 4, pos := "ref.go:70", after := #[{ on := 18, ground := Ground.data }, { on := 12, ground := Ground.chain }], guard := none }) (d := 76) (v := .bool true) hF hQ hS rfl rfl (by decide) (by kernel_rfl) (by kernel_rfl) (by kernel_rfl) (by kernel_rfl) (fun a' hA => wanted_none rfl) (run_move_fs rfl rfl) ?_
    clear hF
    intro a hF
    refine take_fs' 20 [35] (oi := { dst := some 77, op := Op.move (Operand.tmp 5), type := 3, pos := "ref.go:70", after := #[{ on := 19, ground := Ground.guard }], guard := some (19, true) }) (d := 77) (v := .int .i64 ((0 : Nat) : Int)) hF hQ hS rfl rfl (by decide) (by kernel_rfl) (by kernel_rfl) (by kernel_rfl) (by kernel_rfl) (fun a' hA => hA.wantedB (j := 19) (dj := 76) (b := true) rfl (by kernel_rfl) (by decide) rfl) (run_move_fs rfl rfl) ?_
    clear hF
    intro a hF
    refine take_fs' 21 [35] (oi := { dst := some 78, op := Op.binOp BinOp.eql 3 (Operand.tmp 77) (Operand.const (Value.int IntKind.i64 0)) 3, type := 4, pos := "ref.go:70", after := #[{ on := 20, ground := Ground.data }, { on := 19, ground := Ground.guard }], guard := some (19, true) }) (d := 78) (v := .bool true) hF hQ hS rfl rfl (by decide) (by kernel_rfl) (by kernel_rfl) (by kernel_rfl) (by kernel_rfl) (fun a' hA => hA.wantedB (j := 19) (dj := 76) (b := true) rfl (by kernel_rfl) (by decide) rfl) (fun a' hA w' hw => by have e77 := hA.get 77 rfl; have ec : ∀ v, a'.eval (.const v) = v := fun _ => rfl; clear hA; generalize a'.eval = ρ at *; simp [go_sem, ec, e77, hz]; try rfl) ?_
    clear hF
    intro a hF
    refine take_fs' 22 [35] (oi := { dst := some 79, op := Op.move (Operand.tmp 78), type := 4, pos := "ref.go:70", after := #[{ on := 21, ground := Ground.data }, { on := 19, ground := Ground.chain }, { on := 19, ground := Ground.guard }], guard := some (19, true) }) (d := 79) (v := .bool true) hF hQ hS rfl rfl (by decide) (by kernel_rfl) (by kernel_rfl) (by kernel_rfl) (by kernel_rfl) (fun a' hA => hA.wantedB (j := 19) (dj := 76) (b := true) rfl (by kernel_rfl) (by decide) rfl) (run_move_fs rfl rfl) ?_
    clear hF
    intro a hF
    refine skip_fs 23 [35] (oi := { dst := some 80, op := Op.fieldAddr 25 (Operand.tmp 6) 2, type := 0, pos := "ref.go:70", after := #[{ on := 22, ground := Ground.guard }], guard := some (22, false) }) (d := 80) hF hQ hS rfl rfl (by decide) (by kernel_rfl) (by kernel_rfl) (by kernel_rfl) (by kernel_rfl) (fun a' hA => hA.unwanted (j := 22) (dj := 79) (b := false) (v := .bool true) rfl (by kernel_rfl) (by decide) rfl (by intro h; cases h)) ?_
    clear hF
    intro a hF
    refine skip_fs 24 [35] (oi := { dst := some 81, op := Op.load 3 (Operand.tmp 80), type := 3, pos := "ref.go:70", after := #[{ on := 23, ground := Ground.data }, { on := 22, ground := Ground.guard }], guard := some (22, false) }) (d := 81) hF hQ hS rfl rfl (by decide) (by kernel_rfl) (by kernel_rfl) (by kernel_rfl) (by kernel_rfl) (fun a' hA => hA.unwanted (j := 22) (dj := 79) (b := false) (v := .bool true) rfl (by kernel_rfl) (by decide) rfl (by intro h; cases h)) ?_
    clear hF
    intro a hF
    refine skip_fs 25 [35] (oi := { dst := some 82, op := Op.fieldAddr 25 (Operand.tmp 1) 5, type := 0, pos := "ref.go:70", after := #[{ on := 22, ground := Ground.guard }], guard := some (22, false) }) (d := 82) hF hQ hS rfl rfl (by decide) (by kernel_rfl) (by kernel_rfl) (by kernel_rfl) (by kernel_rfl) (fun a' hA => hA.unwanted (j := 22) (dj := 79) (b := false) (v := .bool true) rfl (by kernel_rfl) (by decide) rfl (by intro h; cases h)) ?_
    clear hF
    intro a hF
    refine skip_fs 26 [35] (oi := { dst := some 83, op := Op.load 23 (Operand.tmp 82), type := 23, pos := "ref.go:70", after := #[{ on := 25, ground := Ground.data }, { on := 22, ground := Ground.guard }], guard := some (22, false) }) (d := 83) hF hQ hS rfl rfl (by decide) (by kernel_rfl) (by kernel_rfl) (by kernel_rfl) (by kernel_rfl) (fun a' hA => hA.unwanted (j := 22) (dj := 79) (b := false) (v := .bool true) rfl (by kernel_rfl) (by decide) rfl (by intro h; cases h)) ?_
    clear hF
    intro a hF
    refine skip_fs 27 [35] (oi := { dst := some 84, op := Op.move (Operand.tmp 5), type := 3, pos := "ref.go:70", after := #[{ on := 22, ground := Ground.guard }], guard := some (22, false) }) (d := 84) hF hQ hS rfl rfl (by decide) (by kernel_rfl) (by kernel_rfl) (by kernel_rfl) (by kernel_rfl) (fun a' hA => hA.unwanted (j := 22) (dj := 79) (b := false) (v := .bool true) rfl (by kernel_rfl) (by decide) rfl (by intro h; cases h)) ?_
    clear hF
    intro a hF
    refine skip_fs 28 [35] (oi := { dst := some 85, op := Op.binOp BinOp.sub 3 (Operand.tmp 84) (Operand.const (Value.int IntKind.i64 1)) 3, type := 3, pos := "ref.go:70", after := #[{ on := 27, ground := Ground.data }, { on := 22, ground := Ground.guard }], guard := some (22, false) }) (d := 85) hF hQ hS rfl rfl (by decide) (by kernel_rfl) (by kernel_rfl) (by kernel_rfl) (by kernel_rfl) (fun a' hA => hA.unwanted (j := 22) (dj := 79) (b := false) (v := .bool true) rfl (by kernel_rfl) (by decide) rfl (by intro h; cases h)) ?_
    clear hF
    intro a hF
    refine skip_fs 29 [35] (oi := { dst := some 86, op := Op.indexAddr 23 (Operand.tmp 83) (Operand.tmp 85), type := 0, pos := "ref.go:70", after := #[{ on := 26, ground := Ground.data }, { on := 28, ground := Ground.data }, { on := 22, ground := Ground.guard }], guard := some (22, false) }) (d := 86) hF hQ hS rfl rfl (by decide) (by kernel_rfl) (by kernel_rfl) (by kernel_rfl) (by kernel_rfl) (fun a' hA => hA.unwanted (j := 22) (dj := 79) (b := false) (v := .bool true) rfl (by kernel_rfl) (by decide) rfl (by intro h; cases h)) ?_
    clear hF
    intro a hF
    refine skip_fs 30 [35] (oi := { dst := some 87, op := Op.fieldAddr 25 (Operand.tmp 86) 3, type := 0, pos := "ref.go:70", after := #[{ on := 29, ground := Ground.data }, { on := 22, ground := Ground.guard }], guard := some (22, false) }) (d := 87) hF hQ hS rfl rfl (by decide) (by kernel_rfl) (by kernel_rfl) (by kernel_rfl) (by kernel_rfl) (fun a' hA => hA.unwanted (j := 22) (dj := 79) (b := false) (v := .bool true) rfl (by kernel_rfl) (by decide) rfl (by intro h; cases h)) ?_
    clear hF
    intro a hF
    refine skip_fs 31 [35] (oi := { dst := some 88, op := Op.load 3 (Operand.tmp 87), type := 3, pos := "ref.go:70", after := #[{ on := 30, ground := Ground.data }, { on := 22, ground := Ground.guard }], guard := some (22, false) }) (d := 88) hF hQ hS rfl rfl (by decide) (by kernel_rfl) (by kernel_rfl) (by kernel_rfl) (by kernel_rfl) (fun a' hA => hA.unwanted (j := 22) (dj := 79) (b := false) (v := .bool true) rfl (by kernel_rfl) (by decide) rfl (by intro h; cases h)) ?_
    clear hF
    intro a hF
    refine skip_fs 32 [35] (oi := { dst := some 89, op := Op.binOp BinOp.geq 3 (Operand.tmp 81) (Operand.tmp 88) 3, type := 4, pos := "ref.go:70", after := #[{ on := 24, ground := Ground.data }, { on := 31, ground := Ground.data }, { on := 22, ground := Ground.guard }], guard := some (22, false) }) (d := 89) hF hQ hS rfl rfl (by decide) (by kernel_rfl) (by kernel_rfl) (by kernel_rfl) (by kernel_rfl) (fun a' hA => hA.unwanted (j := 22) (dj := 79) (b := false) (v := .bool true) rfl (by kernel_rfl) (by decide) rfl (by intro h; cases h)) ?_
    clear hF
    intro a hF
    refine take_fs' 33 [35] (oi := { dst := some 90, op := Op.pick (Operand.tmp 79) (Operand.const (Value.bool true)) (Operand.tmp 89), type := 4, pos := "ref.go:70", after := #[{ on := 22, ground := Ground.data }, { on := 32, ground := Ground.data }, { on := 19, ground := Ground.guard }], guard := some (19, true) }) (d := 90) (v := .bool true) hF hQ hS rfl rfl (by decide) (by kernel_rfl) (by kernel_rfl) (by kernel_rfl) (by kernel_rfl) (fun a' hA => hA.wantedB (j := 19) (dj := 76) (b := true) rfl (by kernel_rfl) (by decide) rfl) (fun a' hA w' hw => by have e79 := hA.get 79 rfl; have e89 := hA.get 89 rfl; have ec : ∀ v, a'.eval (.const v) = v := fun _ => rfl; clear hA; generalize a'.eval = ρ at *; simp [go_sem, ec, e79, e89]; try rfl) ?_
    clear hF
    intro a hF
    refine take_fs' 34 [35] (oi := { dst := some 91, op := Op.pick (Operand.tmp 76) (Operand.tmp 90) (Operand.const (Value.bool false)), type := 4, pos := "ref.go:70", after := #[{ on := 19, ground := Ground.data }, { on := 33, ground := Ground.data }], guard := none }) (d := 91) (v := .bool true) hF hQ hS rfl rfl (by decide) (by kernel_rfl) (by kernel_rfl) (by kernel_rfl) (by kernel_rfl) (fun a' hA => wanted_none rfl) (fun a' hA w' hw => by have e76 := hA.get 76 rfl; have e90 := hA.get 90 rfl; have ec : ∀ v, a'.eval (.const v) = v := fun _ => rfl; clear hA; generalize a'.eval = ρ at *; simp [go_sem, ec, e76, e90]; try rfl) ?_
    clear hF
    intro a hF
    refine last_fs 35 (oi := { dst := some 3, op := Op.assign (Operand.tmp 91), type := 4, pos := "ref.go:70", after := #[{ on := 34, ground := Ground.data }, { on := 22, ground := Ground.chain }, { on := 0, ground := Ground.phase }, { on := 1, ground := Ground.phase }, { on := 2, ground := Ground.phase }, { on := 3, ground := Ground.phase }, { on := 4, ground := Ground.phase }, { on := 5, ground := Ground.phase }, { on := 6, ground := Ground.phase }, { on := 7, ground := Ground.phase }, { on := 8, ground := Ground.phase }, { on := 9, ground := Ground.phase }, { on := 10, ground := Ground.phase }, { on := 11, ground := Ground.phase }, { on := 12, ground := Ground.phase }, { on := 13, ground := Ground.phase }, { on := 14, ground := Ground.phase }, { on := 15, ground := Ground.phase }, { on := 16, ground := Ground.phase }, { on := 17, ground := Ground.phase }, { on := 18, ground := Ground.phase }, { on := 19, ground := Ground.phase }, { on := 20, ground := Ground.phase }, { on := 21, ground := Ground.phase }, { on := 22, ground := Ground.phase }, { on := 23, ground := Ground.phase }, { on := 24, ground := Ground.phase }, { on := 25, ground := Ground.phase }, { on := 26, ground := Ground.phase }, { on := 27, ground := Ground.phase }, { on := 28, ground := Ground.phase }, { on := 29, ground := Ground.phase }, { on := 30, ground := Ground.phase }, { on := 31, ground := Ground.phase }, { on := 32, ground := Ground.phase }, { on := 33, ground := Ground.phase }, { on := 34, ground := Ground.phase }], guard := none }) (d := 3) (v := .bool true) hF rfl rfl (by decide) (by kernel_rfl) (by kernel_rfl) (by kernel_rfl) (fun a' hA => wanted_none rfl) (fun a' hA => by rw [BigFrame.run_assign (.tmp 91) rfl, hA.get 91 rfl]) ?_
    intro a' hF'
    exact H a' _ (by rw [hres]; exact Fs.of hF'.1 hF'.2.1 (by simp only [List.forall_mem_cons]; exact ⟨hF'.get 1 rfl, hF'.get 3 rfl, hF'.get 5 rfl, hF'.get 6 rfl, by simp⟩)) (fun k v h1 h3 h5 h6 hk => by
      have hkk := hLx k v hk
      refine hF'.2.2 k v ?_
      simp only [List.cons_append, List.nil_append]
      rw [look_skip (by omega)]
      rw [look_skip (by omega)]
      rw [look_skip (by omega)]
      rw [look_skip (by omega)]
      rw [look_skip (by omega)]
      rw [look_skip (by omega)]
      rw [look_skip (by omega)]
      rw [look_skip (by omega)]
      rw [look_skip (by omega)]
      rw [look_skip (by omega)]
      rw [look_skip (by omega)]
      rw [look_skip (by omega)]
      rw [look_skip (by omega)]
      rw [look_skip (by omega)]
      rw [look_skip (by omega)]
      rw [look_skip (by omega)]
      rw [look_skip (by omega)]
      rw [look_skip (by omega)]
      rw [look_skip (by omega)]
      rw [look_skip (by omega)]
      rw [look_skip (by omega)]
      rw [look_skip (by omega)]
      rw [look_skip (by omega)]
      rw [look_skip (by omega)]
      rw [look_skip (by omega)]
      rw [look_skip (by omega)]
      rw [look_skip (by omega)]
      rw [look_skip (by omega)]
      rw [look_skip (by omega)]
      rw [look_skip (by omega)]
      rw [look_skip (by omega)]
      rw [look_skip (by omega)]
      rw [look_skip (by omega)]
      rw [look_skip (by omega)]
      rw [look_skip (by omega)]
      rw [look_skip (by omega)]
      rw [look_skip (by omega)]
      rw [look_skip (by omega)]
      rw [look_skip (by omega)]
      rw [look_skip (by omega)]
      exact hk) hS

set_option maxRecDepth 20000 in
set_option maxHeartbeats 4000000 in
theorem right10_5 {Q : Exit → Act → World → Prop} {a : Act} {w : World} {bb kb b1 off kn kc i : Nat} {f t xk xm xf xt : Int} {xnp : Option Addr} {xnn xnc : Nat} {xkp : Option Addr} {xkn xkc : Nat} {pt : Int} {rv : Bool} {Lx : List (Nat × Value)}
    (h : R10 w bb kb b1 off kn kc i f t xk xm xf xt xnp xnn xnc xkp xkn xkc pt true rv) (hrv : rv = true) (hc1 : f ≤ xf) (hc2 : xt ≤ t) (hc3 : ¬ pt ≤ xf) (i1 : Nat) (hi1' : i = i1 + 1)
    (hF : Fs a 93 ([(1, .pointer (some ⟨bb, 0, none⟩)), (3, .bool true), (5, .int .i64 (i : Int)), (6, .pointer (some ⟨kb, 0, none⟩))] ++ Lx))
    (hLx : ∀ k v, Lx.lookup k = some v → k < 57 ∨ 92 ≤ k)
    (hQ : ∀ c (a a' : Act) w, a'.defers = a.defers → Q (.panic c) a w → Q (.panic c) a' w)
    (H : ∀ a' w', Fs a' 93 [(1, .pointer (some ⟨bb, 0, none⟩)), (3, .bool (kidOk true rv f t xf xt i pt)), (5, .int .i64 (i : Int)), (6, .pointer (some ⟨kb, 0, none⟩))] → (∀ k v, k ≠ 1 → k ≠ 3 → k ≠ 5 → k ≠ 6 → Lx.lookup k = some v → a'.eval (.tmp k) = v) → Below w.heap.size w w' → Q .normal a' w') :
    (Code.region 10 opsR10 true).wp Try.prog Q a w := by
    have hres : kidOk true rv f t xf xt i pt = false := by simp [kidOk, hrv, hc1, hc2, hc3, hi1']
    have HS := h.HS
    have HX := h.HX
    have hHI := h.hi
    have hHK := h.hk
    have HP := h.HP i1 hi1'
    have hz : ¬ i = 0 := by omega
    have hwr : IntKind.i64.wrap (i1 : Int) = (i1 : Int) := wrap_nat (by omega)
    have hi1 : (i : Int) - 1 = (i1 : Int) := by omega
    have hx1 : (0 : Int) ≤ (i1 : Int) := by omega
    have hx2 : (i1 : Int) < (kn : Int) := by omega
    refine wp_region_till (fun W => Below w.heap.size w W) 35 (by kernel_rfl) ?_
    have hS : Below w.heap.size w w.drew := (Below.refl w.heap.size w).drew
    obtain ⟨wc, hwc⟩ : ∃ wc, wc = w.drew := ⟨_, rfl⟩
    rw [← hwc] at hS ⊢
    clear hwc
    refine take_fs' 0 [35] (oi := { dst := some 57, op := Op.move (Operand.tmp 3), type := 4, pos := "ref.go:70", after := #[], guard := none }) (d := 57) (v := .bool true) hF hQ hS rfl rfl (by decide) (by kernel_rfl) (by kernel_rfl) (by kernel_rfl) (by kernel_rfl) (fun a' hA => wanted_none rfl) (run_move_fs rfl rfl) ?_
    clear hF
    intro a hF
    refine take_fs' 1 [35] (oi := { dst := some 58, op := Op.move (Operand.tmp 57), type := 4, pos := "ref.go:70", after := #[{ on := 0, ground := Ground.data }], guard := none }) (d := 58) (v := .bool true) hF hQ hS rfl rfl (by decide) (by kernel_rfl) (by kernel_rfl) (by kernel_rfl) (by kernel_rfl) (fun a' hA => wanted_none rfl) (run_move_fs rfl rfl) ?_
    clear hF
    intro a hF
    refine take_fs' 2 [35] (oi := { dst := some 59, op := Op.load 25 (Operand.tmp 6), type := 25, pos := "ref.go:70", after := #[{ on := 1, ground := Ground.guard }], guard := some (1, true) }) (d := 59) (v := .agg #[.int .i64 xk, .int .i64 xm, .int .i64 xf, .int .i64 xt, .slice xnp xnn xnc, .slice xkp xkn xkc]) hF hQ hS rfl rfl (by decide) (by kernel_rfl) (by kernel_rfl) (by kernel_rfl) (by kernel_rfl) (fun a' hA => hA.wantedB (j := 1) (dj := 58) (b := true) rfl (by kernel_rfl) (by decide) rfl) (fun a' hA w' hw => by have e6 := hA.get 6 rfl; have ec : ∀ v, a'.eval (.const v) = v := fun _ => rfl; obtain ⟨b2, b3, b5, k0, k1, k2, k3, k4, k5⟩ := HS _ hw; have p3 := HP _ hw; clear hA; generalize a'.eval = ρ at *; simp [go_sem, ec, e6, b2, b3, b5, k0, k1, k2, k3, k4, k5, p3]; try rfl) ?_
    clear hF
    intro a hF
    refine call_fs 3 (oi := { dst := some 60, op := Op.call { callee := Callee.value (Operand.func 27), args := #[Operand.tmp 59], argTypes := #[25] }, type := 4, pos := "ref.go:70", after := #[{ on := 2, ground := Ground.data }, { on := 1, ground := Ground.chain }, { on := 1, ground := Ground.guard }], guard := some (1, true) }) (d := 60) (R := fun v w' => v = .bool true) hF rfl rfl (by decide) (by kernel_rfl) (fun a' hA => hA.wantedB (j := 1) (dj := 58) (b := true) rfl (by kernel_rfl) (by decide) rfl) (fun a' hA => by have e59 := hA.get 59 rfl; have ef : ∀ f, a'.eval (.func f) = .func (.func f) #[] #[] := fun _ => rfl; clear hA; generalize a'.eval = ρ at *; simp [go_sem, ef, e59]) ((HX _ hS).mono ?_) ?_
    · rintro e w' ⟨rfl, hb⟩
      exact ⟨_, rfl, ret_val hrv, hS.trans (hb.mono hS.size)⟩
    clear hF
    rintro a v wd hF rfl hS
    refine take_fs' 4 [35] (oi := { dst := some 61, op := Op.pick (Operand.tmp 58) (Operand.tmp 60) (Operand.const (Value.bool false)), type := 4, pos := "ref.go:70", after := #[{ on := 1, ground := Ground.data }, { on := 3, ground := Ground.data }], guard := none }) (d := 61) (v := .bool true) hF hQ hS rfl rfl (by decide) (by kernel_rfl) (by kernel_rfl) (by kernel_rfl) (by kernel_rfl) (fun a' hA => wanted_none rfl) (fun a' hA w' hw => by have e58 := hA.get 58 rfl; have e60 := hA.get 60 rfl; have ec : ∀ v, a'.eval (.const v) = v := fun _ => rfl; clear hA; generalize a'.eval = ρ at *; simp [go_sem, ec, e58, e60]; try rfl) ?_
    clear hF
    intro a hF
    refine take_fs' 5 [35] (oi := { dst := some 62, op := Op.move (Operand.tmp 61), type := 4, pos := "ref.go:70", after := #[{ on := 4, ground := Ground.data }, { on := 3, ground := Ground.chain }], guard := none }) (d := 62) (v := .bool true) hF hQ hS rfl rfl (by decide) (by kernel_rfl) (by kernel_rfl) (by kernel_rfl) (by kernel_rfl) (fun a' hA => wanted_none rfl) (run_move_fs rfl rfl) ?_
    clear hF
    intro a hF
    refine take_fs' 6 [35] (oi := { dst := some 63, op := Op.fieldAddr 25 (Operand.tmp 6) 2, type := 0, pos := "ref.go:70", after := #[{ on := 5, ground := Ground.guard }], guard := some (5, true) }) (d := 63) (v := .pointer (some ⟨kb, 2, none⟩)) hF hQ hS rfl rfl (by decide) (by kernel_rfl) (by kernel_rfl) (by kernel_rfl) (by kernel_rfl) (fun a' hA => hA.wantedB (j := 5) (dj := 62) (b := true) rfl (by kernel_rfl) (by decide) rfl) (fun a' hA w' hw => by have e6 := hA.get 6 rfl; have ec : ∀ v, a'.eval (.const v) = v := fun _ => rfl; clear hA; generalize a'.eval = ρ at *; simp [go_sem, ec, e6]; try rfl) ?_
    clear hF
    intro a hF
    refine take_fs' 7 [35] (oi := { dst := some 64, op := Op.load 3 (Operand.tmp 63), type := 3, pos := "ref.go:70", after := #[{ on := 6, ground := Ground.data }, { on := 5, ground := Ground.guard }], guard := some (5, true) }) (d := 64) (v := .int .i64 xf) hF hQ hS rfl rfl (by decide) (by kernel_rfl) (by kernel_rfl) (by kernel_rfl) (by kernel_rfl) (fun a' hA => hA.wantedB (j := 5) (dj := 62) (b := true) rfl (by kernel_rfl) (by decide) rfl) (fun a' hA w' hw => by have e63 := hA.get 63 rfl; have ec : ∀ v, a'.eval (.const v) = v := fun _ => rfl; obtain ⟨b2, b3, b5, k0, k1, k2, k3, k4, k5⟩ := HS _ hw; have p3 := HP _ hw; clear hA; generalize a'.eval = ρ at *; simp [go_sem, ec, e63, b2, b3, b5, k0, k1, k2, k3, k4, k5, p3]; try rfl) ?_
    clear hF
    intro a hF
    refine take_fs' 8 [35] (oi := { dst := some 65, op := Op.fieldAddr 25 (Operand.tmp 1) 2, type := 0, pos := "ref.go:70", after := #[{ on := 5, ground := Ground.guard }], guard := some (5, true) }) (d := 65) (v := .pointer (some ⟨bb, 2, none⟩)) hF hQ hS rfl rfl (by decide) (by kernel_rfl) (by kernel_rfl) (by kernel_rfl) (by kernel_rfl) (fun a' hA => hA.wantedB (j := 5) (dj := 62) (b := true) rfl (by kernel_rfl) (by decide) rfl) (fun a' hA w' hw => by have e1 := hA.get 1 rfl; have ec : ∀ v, a'.eval (.const v) = v := fun _ => rfl; clear hA; generalize a'.eval = ρ at *; simp [go_sem, ec, e1]; try rfl) ?_
    clear hF
    intro a hF
    refine take_fs' 9 [35] (oi := { dst := some 66, op := Op.load 3 (Operand.tmp 65), type := 3, pos := "ref.go:70", after := #[{ on := 8, ground := Ground.data }, { on := 5, ground := Ground.guard }], guard := some (5, true) }) (d := 66) (v := .int .i64 f) hF hQ hS rfl rfl (by decide) (by kernel_rfl) (by kernel_rfl) (by kernel_rfl) (by kernel_rfl) (fun a' hA => hA.wantedB (j := 5) (dj := 62) (b := true) rfl (by kernel_rfl) (by decide) rfl) (fun a' hA w' hw => by have e65 := hA.get 65 rfl; have ec : ∀ v, a'.eval (.const v) = v := fun _ => rfl; obtain ⟨b2, b3, b5, k0, k1, k2, k3, k4, k5⟩ := HS _ hw; have p3 := HP _ hw; clear hA; generalize a'.eval = ρ at *; simp [go_sem, ec, e65, b2, b3, b5, k0, k1, k2, k3, k4, k5, p3]; try rfl) ?_
    clear hF
    intro a hF
    refine take_fs' 10 [35] (oi := { dst := some 67, op := Op.binOp BinOp.geq 3 (Operand.tmp 64) (Operand.tmp 66) 3, type := 4, pos := "ref.go:70", after := #[{ on := 7, ground := Ground.data }, { on := 9, ground := Ground.data }, { on := 5, ground := Ground.guard }], guard := some (5, true) }) (d := 67) (v := .bool true) hF hQ hS rfl rfl (by decide) (by kernel_rfl) (by kernel_rfl) (by kernel_rfl) (by kernel_rfl) (fun a' hA => hA.wantedB (j := 5) (dj := 62) (b := true) rfl (by kernel_rfl) (by decide) rfl) (fun a' hA w' hw => by have e64 := hA.get 64 rfl; have e66 := hA.get 66 rfl; have ec : ∀ v, a'.eval (.const v) = v := fun _ => rfl; clear hA; generalize a'.eval = ρ at *; simp [go_sem, ec, e64, e66, hc1]; try rfl) ?_
    clear hF
    intro a hF
    refine take_fs' 11 [35] (oi := { dst := some 68, op := Op.pick (Operand.tmp 62) (Operand.tmp 67) (Operand.const (Value.bool false)), type := 4, pos := "ref.go:70", after := #[{ on := 5, ground := Ground.data }, { on := 10, ground := Ground.data }], guard := none }) (d := 68) (v := .bool true) hF hQ hS rfl rfl (by decide) (by kernel_rfl) (by kernel_rfl) (by kernel_rfl) (by kernel_rfl) (fun a' hA => wanted_none rfl) (fun a' hA w' hw => by have e62 := hA.get 62 rfl; have e67 := hA.get 67 rfl; have ec : ∀ v, a'.eval (.const v) = v := fun _ => rfl; clear hA; generalize a'.eval = ρ at *; simp [go_sem, ec, e62, e67]; try rfl) ?_
    clear hF
    intro a hF
    refine take_fs' 12 [35] (oi := { dst := some 69, op := Op.move (Operand.tmp 68), type := 4, pos := "ref.go:70", after := #[{ on := 11, ground := Ground.data }, { on := 5, ground := Ground.chain }], guard := none }) (d := 69) (v := .bool true) hF hQ hS rfl rfl (by decide) (by kernel_rfl) (by kernel_rfl) (by kernel_rfl) (by kernel_rfl) (fun a' hA => wanted_none rfl) (run_move_fs rfl rfl) ?_
    clear hF
    intro a hF
    refine take_fs' 13 [35] (oi := { dst := some 70, op := Op.fieldAddr 25 (Operand.tmp 6) 3, type := 0, pos := "ref.go:70", after := #[{ on := 12, ground := Ground.guard }], guard := some (12, true) }) (d := 70) (v := .pointer (some ⟨kb, 3, none⟩)) hF hQ hS rfl rfl (by decide) (by kernel_rfl) (by kernel_rfl) (by kernel_rfl) (by kernel_rfl) (fun a' hA => hA.wantedB (j := 12) (dj := 69) (b := true) rfl (by kernel_rfl) (by decide) rfl) (fun a' hA w' hw => by have e6 := hA.get 6 rfl; have ec : ∀ v, a'.eval (.const v) = v := fun _ => rfl; clear hA; generalize a'.eval = ρ at *; simp [go_sem, ec, e6]; try rfl) ?_
    clear hF
    intro a hF
    refine take_fs' 14 [35] (oi := { dst := some 71, op := Op.load 3 (Operand.tmp 70), type := 3, pos := "ref.go:70", after := #[{ on := 13, ground := Ground.data }, { on := 12, ground := Ground.guard }], guard := some (12, true) }) (d := 71) (v := .int .i64 xt) hF hQ hS rfl rfl (by decide) (by kernel_rfl) (by kernel_rfl) (by kernel_rfl) (by kernel_rfl) (fun a' hA => hA.wantedB (j := 12) (dj := 69) (b := true) rfl (by kernel_rfl) (by decide) rfl) (fun a' hA w' hw => by have e70 := hA.get 70 rfl; have ec : ∀ v, a'.eval (.const v) = v := fun _ => rfl; obtain ⟨b2, b3, b5, k0, k1, k2, k3, k4, k5⟩ := HS _ hw; have p3 := HP _ hw; clear hA; generalize a'.eval = ρ at *; simp [go_sem, ec, e70, b2, b3, b5, k0, k1, k2, k3, k4, k5, p3]; try rfl) ?_
    clear hF
    intro a hF
    refine take_fs' 15 [35] (oi := { dst := some 72, op := Op.fieldAddr 25 (Operand.tmp 1) 3, type := 0, pos := "ref.go:70", after := #[{ on := 12, ground := Ground.guard }], guard := some (12, true) }) (d := 72) (v := .pointer (some ⟨bb, 3, none⟩)) hF hQ hS rfl rfl (by decide) (by kernel_rfl) (by kernel_rfl) (by kernel_rfl) (by kernel_rfl) (fun a' hA => hA.wantedB (j := 12) (dj := 69) (b := true) rfl (by kernel_rfl) (by decide) rfl) (fun a' hA w' hw => by have e1 := hA.get 1 rfl; have ec : ∀ v, a'.eval (.const v) = v := fun _ => rfl; clear hA; generalize a'.eval = ρ at *; simp [go_sem, ec, e1]; try rfl) ?_
    clear hF
    intro a hF
    refine take_fs' 16 [35] (oi := { dst := some 73, op := Op.load 3 (Operand.tmp 72), type := 3, pos := "ref.go:70", after := #[{ on := 15, ground := Ground.data }, { on := 12, ground := Ground.guard }], guard := some (12, true) }) (d := 73) (v := .int .i64 t) hF hQ hS rfl rfl (by decide) (by kernel_rfl) (by kernel_rfl) (by kernel_rfl) (by kernel_rfl) (fun a' hA => hA.wantedB (j := 12) (dj := 69) (b := true) rfl (by kernel_rfl) (by decide) rfl) (fun a' hA w' hw => by have e72 := hA.get 72 rfl; have ec : ∀ v, a'.eval (.const v) = v := fun _ => rfl; obtain ⟨b2, b3, b5, k0, k1, k2, k3, k4, k5⟩ := HS _ hw; have p3 := HP _ hw; clear hA; generalize a'.eval = ρ at *; simp [go_sem, ec, e72, b2, b3, b5, k0, k1, k2, k3, k4, k5, p3]; try rfl) ?_
    clear hF
    intro a hF
    refine take_fs' 17 [35] (oi := { dst := some 74, op := Op.binOp BinOp.leq 3 (Operand.tmp 71) (Operand.tmp 73) 3, type := 4, pos := "ref.go:70", after := #[{ on := 14, ground := Ground.data }, { on := 16, ground := Ground.data }, { on := 12, ground := Ground.guard }], guard := some (12, true) }) (d := 74) (v := .bool true) hF hQ hS rfl rfl (by decide) (by kernel_rfl) (by kernel_rfl) (by kernel_rfl) (by kernel_rfl) (fun a' hA => hA.wantedB (j := 12) (dj := 69) (b := true) rfl (by kernel_rfl) (by decide) rfl) (fun a' hA w' hw => by have e71 := hA.get 71 rfl; have e73 := hA.get 73 rfl; have ec : ∀ v, a'.eval (.const v) = v := fun _ => rfl; clear hA; generalize a'.eval = ρ at *; simp [go_sem, ec, e71, e73, hc2]; try rfl) ?_
    clear hF
    intro a hF
    refine take_fs' 18 [35] (oi := { dst := some 75, op := Op.pick (Operand.tmp 69) (Operand.tmp 74) (Operand.const (Value.bool false)), type := 4, pos := "ref.go:70", after := #[{ on := 12, ground := Ground.data }, { on := 17, ground := Ground.data }], guard := none }) (d := 75) (v := .bool true) hF hQ hS rfl rfl (by decide) (by kernel_rfl) (by kernel_rfl) (by kernel_rfl) (by kernel_rfl) (fun a' hA => wanted_none rfl) (fun a' hA w' hw => by have e69 := hA.get 69 rfl; have e74 := hA.get 74 rfl; have ec : ∀ v, a'.eval (.const v) = v := fun _ => rfl; clear hA; generalize a'.eval = ρ at *; simp [go_sem, ec, e69, e74]; try rfl) ?_
    clear hF
    intro a hF
    refine take_fs' 19 [35] (oi := { dst := some 76, op := Op.move (Operand.tmp 75), type := 4, pos := "ref.go:70", after := #[{ on := 18, ground := Ground.data }, { on := 12, ground := Ground.chain }], guard := none }) (d := 76) (v := .bool true) hF hQ hS rfl rfl (by decide) (by kernel_rfl) (by kernel_rfl) (by kernel_rfl) (by kernel_rfl) (fun a' hA => wanted_none rfl) (run_move_fs rfl rfl) ?_
    clear hF
    intro a hF
    refine take_fs' 20 [35] (oi := { dst := some 77, op := Op.move (Operand.tmp 5), type := 3, pos := "ref.go:70", after := #[{ on := 19, ground := Ground.guard }], guard := some (19, true) }) (d := 77) (v := .int .i64 (i : Int)) hF hQ hS rfl rfl (by decide) (by kernel_rfl) (by kernel_rfl) (by kernel_rfl) (by kernel_rfl) (fun a' hA => hA.wantedB (j := 19) (dj := 76) (b := true) rfl (by kernel_rfl) (by decide) rfl) (run_move_fs rfl rfl) ?_
    clear hF
    intro a hF
    refine take_fs' 21 [35] (oi := { dst := some 78, op := Op.binOp BinOp.eql 3 (Operand.tmp 77) (Operand.const (Value.int IntKind.i64 0)) 3, type := 4, pos := "ref.go:70", after := #[{ on := 20, ground := Ground.data }, { on := 19, ground := Ground.guard }], guard := some (19, true) }) (d := 78) (v := .bool false) hF hQ hS rfl rfl (by decide) (by kernel_rfl) (by kernel_rfl) (by kernel_rfl) (by kernel_rfl) (fun a' hA => hA.wantedB (j := 19) (dj := 76) (b := true) rfl (by kernel_rfl) (by decide) rfl) (fun a' hA w' hw => by have e77 := hA.get 77 rfl; have ec : ∀ v, a'.eval (.const v) = v := fun _ => rfl; clear hA; generalize a'.eval = ρ at *; simp [go_sem, ec, e77, hz]; try rfl) ?_
    clear hF
    intro a hF
    refine take_fs' 22 [35] (oi := { dst := some 79, op := Op.move (Operand.tmp 78), type := 4, pos := "ref.go:70", after := #[{ on := 21, ground := Ground.data }, { on := 19, ground := Ground.chain }, { on := 19, ground := Ground.guard }], guard := some (19, true) }) (d := 79) (v := .bool false) hF hQ hS rfl rfl (by decide) (by kernel_rfl) (by kernel_rfl) (by kernel_rfl) (by kernel_rfl) (fun a' hA => hA.wantedB (j := 19) (dj := 76) (b := true) rfl (by kernel_rfl) (by decide) rfl) (run_move_fs rfl rfl) ?_
    clear hF
    intro a hF
    refine take_fs' 23 [35] (oi := { dst := some 80, op := Op.fieldAddr 25 (Operand.tmp 6) 2, type := 0, pos := "ref.go:70", after := #[{ on := 22, ground := Ground.guard }], guard := some (22, false) }) (d := 80) (v := .pointer (some ⟨kb, 2, none⟩)) hF hQ hS rfl rfl (by decide) (by kernel_rfl) (by kernel_rfl) (by kernel_rfl) (by kernel_rfl) (fun a' hA => hA.wantedB (j := 22) (dj := 79) (b := false) rfl (by kernel_rfl) (by decide) rfl) (fun a' hA w' hw => by have e6 := hA.get 6 rfl; have ec : ∀ v, a'.eval (.const v) = v := fun _ => rfl; clear hA; generalize a'.eval = ρ at *; simp [go_sem, ec, e6]; try rfl) ?_
    clear hF
    intro a hF
    refine take_fs' 24 [35] (oi := { dst := some 81, op := Op.load 3 (Operand.tmp 80), type := 3, pos := "ref.go:70", after := #[{ on := 23, ground := Ground.data }, { on := 22, ground := Ground.guard }], guard := some (22, false) }) (d := 81) (v := .int .i64 xf) hF hQ hS rfl rfl (by decide) (by kernel_rfl) (by kernel_rfl) (by kernel_rfl) (by kernel_rfl) (fun a' hA => hA.wantedB (j := 22) (dj := 79) (b := false) rfl (by kernel_rfl) (by decide) rfl) (fun a' hA w' hw => by have e80 := hA.get 80 rfl; have ec : ∀ v, a'.eval (.const v) = v := fun _ => rfl; obtain ⟨b2, b3, b5, k0, k1, k2, k3, k4, k5⟩ := HS _ hw; have p3 := HP _ hw; clear hA; generalize a'.eval = ρ at *; simp [go_sem, ec, e80, b2, b3, b5, k0, k1, k2, k3, k4, k5, p3]; try rfl) ?_
    clear hF
    intro a hF
    refine take_fs' 25 [35] (oi := { dst := some 82, op := Op.fieldAddr 25 (Operand.tmp 1) 5, type := 0, pos := "ref.go:70", after := #[{ on := 22, ground := Ground.guard }], guard := some (22, false) }) (d := 82) (v := .pointer (some ⟨bb, 5, none⟩)) hF hQ hS rfl rfl (by decide) (by kernel_rfl) (by kernel_rfl) (by kernel_rfl) (by kernel_rfl) (fun a' hA => hA.wantedB (j := 22) (dj := 79) (b := false) rfl (by kernel_rfl) (by decide) rfl) (fun a' hA w' hw => by have e1 := hA.get 1 rfl; have ec : ∀ v, a'.eval (.const v) = v := fun _ => rfl; clear hA; generalize a'.eval = ρ at *; simp [go_sem, ec, e1]; try rfl) ?_
    clear hF
    intro a hF
    refine take_fs' 26 [35] (oi := { dst := some 83, op := Op.load 23 (Operand.tmp 82), type := 23, pos := "ref.go:70", after := #[{ on := 25, ground := Ground.data }, { on := 22, ground := Ground.guard }], guard := some (22, false) }) (d := 83) (v := .slice (some ⟨b1, off, none⟩) kn kc) hF hQ hS rfl rfl (by decide) (by kernel_rfl) (by kernel_rfl) (by kernel_rfl) (by kernel_rfl) (fun a' hA => hA.wantedB (j := 22) (dj := 79) (b := false) rfl (by kernel_rfl) (by decide) rfl) (fun a' hA w' hw => by have e82 := hA.get 82 rfl; have ec : ∀ v, a'.eval (.const v) = v := fun _ => rfl; obtain ⟨b2, b3, b5, k0, k1, k2, k3, k4, k5⟩ := HS _ hw; have p3 := HP _ hw; clear hA; generalize a'.eval = ρ at *; simp [go_sem, ec, e82, b2, b3, b5, k0, k1, k2, k3, k4, k5, p3]; try rfl) ?_
    clear hF
    intro a hF
    refine take_fs' 27 [35] (oi := { dst := some 84, op := Op.move (Operand.tmp 5), type := 3, pos := "ref.go:70", after := #[{ on := 22, ground := Ground.guard }], guard := some (22, false) }) (d := 84) (v := .int .i64 (i : Int)) hF hQ hS rfl rfl (by decide) (by kernel_rfl) (by kernel_rfl) (by kernel_rfl) (by kernel_rfl) (fun a' hA => hA.wantedB (j := 22) (dj := 79) (b := false) rfl (by kernel_rfl) (by decide) rfl) (run_move_fs rfl rfl) ?_
    clear hF
    intro a hF
    refine take_fs' 28 [35] (oi := { dst := some 85, op := Op.binOp BinOp.sub 3 (Operand.tmp 84) (Operand.const (Value.int IntKind.i64 1)) 3, type := 3, pos := "ref.go:70", after := #[{ on := 27, ground := Ground.data }, { on := 22, ground := Ground.guard }], guard := some (22, false) }) (d := 85) (v := .int .i64 (i1 : Int)) hF hQ hS rfl rfl (by decide) (by kernel_rfl) (by kernel_rfl) (by kernel_rfl) (by kernel_rfl) (fun a' hA => hA.wantedB (j := 22) (dj := 79) (b := false) rfl (by kernel_rfl) (by decide) rfl) (fun a' hA w' hw => by have e84 := hA.get 84 rfl; have ec : ∀ v, a'.eval (.const v) = v := fun _ => rfl; clear hA; generalize a'.eval = ρ at *; simp [go_sem, ec, e84, hi1, hwr]; try rfl) ?_
    clear hF
    intro a hF
    refine take_fs' 29 [35] (oi := { dst := some 86, op := Op.indexAddr 23 (Operand.tmp 83) (Operand.tmp 85), type := 0, pos := "ref.go:70", after := #[{ on := 26, ground := Ground.data }, { on := 28, ground := Ground.data }, { on := 22, ground := Ground.guard }], guard := some (22, false) }) (d := 86) (v := .pointer (some ⟨b1, off + i1 * 6, none⟩)) hF hQ hS rfl rfl (by decide) (by kernel_rfl) (by kernel_rfl) (by kernel_rfl) (by kernel_rfl) (fun a' hA => hA.wantedB (j := 22) (dj := 79) (b := false) rfl (by kernel_rfl) (by decide) rfl) (fun a' hA w' hw => by have e83 := hA.get 83 rfl; have e85 := hA.get 85 rfl; have ec : ∀ v, a'.eval (.const v) = v := fun _ => rfl; clear hA; generalize a'.eval = ρ at *; simp [go_sem, ec, e83, e85, hx1, hx2]; try rfl) ?_
    clear hF
    intro a hF
    refine take_fs' 30 [35] (oi := { dst := some 87, op := Op.fieldAddr 25 (Operand.tmp 86) 3, type := 0, pos := "ref.go:70", after := #[{ on := 29, ground := Ground.data }, { on := 22, ground := Ground.guard }], guard := some (22, false) }) (d := 87) (v := .pointer (some ⟨b1, off + i1 * 6 + 3, none⟩)) hF hQ hS rfl rfl (by decide) (by kernel_rfl) (by kernel_rfl) (by kernel_rfl) (by kernel_rfl) (fun a' hA => hA.wantedB (j := 22) (dj := 79) (b := false) rfl (by kernel_rfl) (by decide) rfl) (fun a' hA w' hw => by have e86 := hA.get 86 rfl; have ec : ∀ v, a'.eval (.const v) = v := fun _ => rfl; clear hA; generalize a'.eval = ρ at *; simp [go_sem, ec, e86]; try rfl) ?_
    clear hF
    intro a hF
    refine take_fs' 31 [35] (oi := { dst := some 88, op := Op.load 3 (Operand.tmp 87), type := 3, pos := "ref.go:70", after := #[{ on := 30, ground := Ground.data }, { on := 22, ground := Ground.guard }], guard := some (22, false) }) (d := 88) (v := .int .i64 pt) hF hQ hS rfl rfl (by decide) (by kernel_rfl) (by kernel_rfl) (by kernel_rfl) (by kernel_rfl) (fun a' hA => hA.wantedB (j := 22) (dj := 79) (b := false) rfl (by kernel_rfl) (by decide) rfl) (fun a' hA w' hw => by have e87 := hA.get 87 rfl; have ec : ∀ v, a'.eval (.const v) = v := fun _ => rfl; obtain ⟨b2, b3, b5, k0, k1, k2, k3, k4, k5⟩ := HS _ hw; have p3 := HP _ hw; clear hA; generalize a'.eval = ρ at *; simp [go_sem, ec, e87, b2, b3, b5, k0, k1, k2, k3, k4, k5, p3]; try rfl) ?_
    clear hF
    intro a hF
    refine take_fs' 32 [35] (oi := { dst := some 89, op := Op.binOp BinOp.geq 3 (Operand.tmp 81) (Operand.tmp 88) 3, type := 4, pos := "ref.go:70", after := #[{ on := 24, ground := Ground.data }, { on := 31, ground := Ground.data }, { on := 22, ground := Ground.guard }], guard := some (22, false) }) (d := 89) (v := .bool false) hF hQ hS rfl rfl (by decide) (by kernel_rfl) (by kernel_rfl) (by kernel_rfl) (by kernel_rfl) (fun a' hA => hA.wantedB (j := 22) (dj := 79) (b := false) rfl (by kernel_rfl) (by decide) rfl) (fun a' hA w' hw => by have e81 := hA.get 81 rfl; have e88 := hA.get 88 rfl; have ec : ∀ v, a'.eval (.const v) = v := fun _ => rfl; clear hA; generalize a'.eval = ρ at *; simp [go_sem, ec, e81, e88, hc3]; try rfl) ?_
    clear hF
    intro a hF
    refine take_fs' 33 [35] (oi := { dst := some 90, op := Op.pick (Operand.tmp 79) (Operand.const (Value.bool true)) (Operand.tmp 89), type := 4, pos := "ref.go:70", after := #[{ on := 22, ground := Ground.data }, { on := 32, ground := Ground.data }, { on := 19, ground := Ground.guard }], guard := some (19, true) }) (d := 90) (v := .bool false) hF hQ hS rfl rfl (by decide) (by kernel_rfl) (by kernel_rfl) (by kernel_rfl) (by kernel_rfl) (fun a' hA => hA.wantedB (j := 19) (dj := 76) (b := true) rfl (by kernel_rfl) (by decide) rfl) (fun a' hA w' hw => by have e79 := hA.get 79 rfl; have e89 := hA.get 89 rfl; have ec : ∀ v, a'.eval (.const v) = v := fun _ => rfl; clear hA; generalize a'.eval = ρ at *; simp [go_sem, ec, e79, e89]; try rfl) ?_
    clear hF
    intro a hF
    refine take_fs' 34 [35] (oi := { dst := some 91, op := Op.pick (Operand.tmp 76) (Operand.tmp 90) (Operand.const (Value.bool false)), type := 4, pos := "ref.go:70", after := #[{ on := 19, ground := Ground.data }, { on := 33, ground := Ground.data }], guard := none }) (d := 91) (v := .bool false) hF hQ hS rfl rfl (by decide) (by kernel_rfl) (by kernel_rfl) (by kernel_rfl) (by kernel_rfl) (fun a' hA => wanted_none rfl) (fun a' hA w' hw => by have e76 := hA.get 76 rfl; have e90 := hA.get 90 rfl; have ec : ∀ v, a'.eval (.const v) = v := fun _ => rfl; clear hA; generalize a'.eval = ρ at *; simp [go_sem, ec, e76, e90]; try rfl) ?_
    clear hF
    intro a hF
    refine last_fs 35 (oi := { dst := some 3, op := Op.assign (Operand.tmp 91), type := 4, pos := "ref.go:70", after := #[{ on := 34, ground := Ground.data }, { on := 22, ground := Ground.chain }, { on := 0, ground := Ground.phase }, { on := 1, ground := Ground.phase }, { on := 2, ground := Ground.phase }, { on := 3, ground := Ground.phase }, { on := 4, ground := Ground.phase }, { on := 5, ground := Ground.phase }, { on := 6, ground := Ground.phase }, { on := 7, ground := Ground.phase }, { on := 8, ground := Ground.phase }, { on := 9, ground := Ground.phase }, { on := 10, ground := Ground.phase }, { on := 11, ground := Ground.phase }, { on := 12, ground := Ground.phase }, { on := 13, ground := Ground.phase }, { on := 14, ground := Ground.phase }, { on := 15, ground := Ground.phase }, { on := 16, ground := Ground.phase }, { on := 17, ground := Ground.phase }, { on := 18, ground := Ground.phase }, { on := 19, ground := Ground.phase }, { on := 20, ground := Ground.phase }, { on := 21, ground := Ground.phase }, { on := 22, ground := Ground.phase }, { on := 23, ground := Ground.phase }, { on := 24, ground := Ground.phase }, { on := 25, ground := Ground.phase }, { on := 26, ground := Ground.phase }, { on := 27, ground := Ground.phase }, { on := 28, ground := Ground.phase }, { on := 29, ground := Ground.phase }, { on := 30, ground := Ground.phase }, { on := 31, ground := Ground.phase }, { on := 32, ground := Ground.phase }, { on := 33, ground := Ground.phase }, { on := 34, ground := Ground.phase }], guard := none }) (d := 3) (v := .bool false) hF rfl rfl (by decide) (by kernel_rfl) (by kernel_rfl) (by kernel_rfl) (fun a' hA => wanted_none rfl) (fun a' hA => by rw [BigFrame.run_assign (.tmp 91) rfl, hA.get 91 rfl]) ?_
    intro a' hF'
    exact H a' _ (by rw [hres]; exact Fs.of hF'.1 hF'.2.1 (by simp only [List.forall_mem_cons]; exact ⟨hF'.get 1 rfl, hF'.get 3 rfl, hF'.get 5 rfl, hF'.get 6 rfl, by simp⟩)) (fun k v h1 h3 h5 h6 hk => by
      have hkk := hLx k v hk
      refine hF'.2.2 k v ?_
      simp only [List.cons_append, List.nil_append]
      rw [look_skip (by omega)]
      rw [look_skip (by omega)]
      rw [look_skip (by omega)]
      rw [look_skip (by omega)]
      rw [look_skip (by omega)]
      rw [look_skip (by omega)]
      rw [look_skip (by omega)]
      rw [look_skip (by omega)]
      rw [look_skip (by omega)]
      rw [look_skip (by omega)]
      rw [look_skip (by omega)]
      rw [look_skip (by omega)]
      rw [look_skip (by omega)]
      rw [look_skip (by omega)]
      rw [look_skip (by omega)]
      rw [look_skip (by omega)]
      rw [look_skip (by omega)]
      rw [look_skip (by omega)]
      rw [look_skip (by omega)]
      rw [look_skip (by omega)]
      rw [look_skip (by omega)]
      rw [look_skip (by omega)]
      rw [look_skip (by omega)]
      rw [look_skip (by omega)]
      rw [look_skip (by omega)]
      rw [look_skip (by omega)]
      rw [look_skip (by omega)]
      rw [look_skip (by omega)]
      rw [look_skip (by omega)]
      rw [look_skip (by omega)]
      rw [look_skip (by omega)]
      rw [look_skip (by omega)]
      rw [look_skip (by omega)]
      rw [look_skip (by omega)]
      rw [look_skip (by omega)]
      rw [look_skip (by omega)]
      rw [look_skip (by omega)]
      rw [look_skip (by omega)]
      rw [look_skip (by omega)]
      rw [look_skip (by omega)]
      exact hk) hS

set_option maxRecDepth 20000 in
set_option maxHeartbeats 4000000 in
theorem right10_6 {Q : Exit → Act → World → Prop} {a : Act} {w : World} {bb kb b1 off kn kc i : Nat} {f t xk xm xf xt : Int} {xnp : Option Addr} {xnn xnc : Nat} {xkp : Option Addr} {xkn xkc : Nat} {pt : Int} {rv : Bool} {Lx : List (Nat × Value)}
    (h : R10 w bb kb b1 off kn kc i f t xk xm xf xt xnp xnn xnc xkp xkn xkc pt true rv) (hrv : rv = true) (hc1 : f ≤ xf) (hc2 : xt ≤ t) (hc3 : pt ≤ xf) (i1 : Nat) (hi1' : i = i1 + 1)
    (hF : Fs a 93 ([(1, .pointer (some ⟨bb, 0, none⟩)), (3, .bool true), (5, .int .i64 (i : Int)), (6, .pointer (some ⟨kb, 0, none⟩))] ++ Lx))
    (hLx : ∀ k v, Lx.lookup k = some v → k < 57 ∨ 92 ≤ k)
    (hQ : ∀ c (a a' : Act) w, a'.defers = a.defers → Q (.panic c) a w → Q (.panic c) a' w)
    (H : ∀ a' w', Fs a' 93 [(1, .pointer (some ⟨bb, 0, none⟩)), (3, .bool (kidOk true rv f t xf xt i pt)), (5, .int .i64 (i : Int)), (6, .pointer (some ⟨kb, 0, none⟩))] → (∀ k v, k ≠ 1 → k ≠ 3 → k ≠ 5 → k ≠ 6 → Lx.lookup k = some v → a'.eval (.tmp k) = v) → Below w.heap.size w w' → Q .normal a' w') :
    (Code.region 10 opsR10 true).wp Try.prog Q a w := by
    have hres : kidOk true rv f t xf xt i pt = true := by simp [kidOk, hrv, hc1, hc2, hc3, hi1']
    have HS := h.HS
    have HX := h.HX
    have hHI := h.hi
    have hHK := h.hk
    have HP := h.HP i1 hi1'
    have hz : ¬ i = 0 := by omega
    have hwr : IntKind.i64.wrap (i1 : Int) = (i1 : Int) := wrap_nat (by omega)
    have hi1 : (i : Int) - 1 = (i1 : Int) := by omega
    have hx1 : (0 : Int) ≤ (i1 : Int) := by omega
    have hx2 : (i1 : Int) < (kn : Int) := by omega
    refine wp_region_till (fun W => Below w.heap.size w W) 35 (by kernel_rfl) ?_
    have hS : Below w.heap.size w w.drew := (Below.refl w.heap.size w).drew
    obtain ⟨wc, hwc⟩ : ∃ wc, wc = w.drew := ⟨_, rfl⟩
    rw [← hwc] at hS ⊢
    clear hwc
    refine take_fs' 0 [35] (oi := { dst := some 57, op := Op.move (Operand.tmp 3), type := 4, pos := "ref.go:70", after := #[], guard := none }) (d := 57) (v := .bool true) hF hQ hS rfl rfl (by decide) (by kernel_rfl) (by kernel_rfl) (by kernel_rfl) (by kernel_rfl) (fun a' hA => wanted_none rfl) (run_move_fs rfl rfl) ?_
    clear hF
    intro a hF
    refine take_fs' 1 [35] (oi := { dst := some 58, op := Op.move (Operand.tmp 57), type := 4, pos := "ref.go:70", after := #[{ on := 0, ground := Ground.data }], guard := none }) (d := 58) (v := .bool true) hF hQ hS rfl rfl (by decide) (by kernel_rfl) (by kernel_rfl) (by kernel_rfl) (by kernel_rfl) (fun a' hA => wanted_none rfl) (run_move_fs rfl rfl) ?_
    clear hF
    intro a hF
    refine take_fs' 2 [35] (oi := { dst := some 59, op := Op.load 25 (Operand.tmp 6), type := 25, pos := "ref.go:70", after := #[{ on := 1, ground := Ground.guard }], guard := some (1, true) }) (d := 59) (v := .agg #[.int .i64 xk, .int .i64 xm, .int .i64 xf, .int .i64 xt, .slice xnp xnn xnc, .slice xkp xkn xkc]) hF hQ hS rfl rfl (by decide) (by kernel_rfl) (by kernel_rfl) (by kernel_rfl) (by kernel_rfl) (fun a' hA => hA.wantedB (j := 1) (dj := 58) (b := true) rfl (by kernel_rfl) (by decide) rfl) (fun a' hA w' hw => by have e6 := hA.get 6 rfl; have ec : ∀ v, a'.eval (.const v) = v := fun _ => rfl; obtain ⟨b2, b3, b5, k0, k1, k2, k3, k4, k5⟩ := HS _ hw; have p3 := HP _ hw; clear hA; generalize a'.eval = ρ at *; simp [go_sem, ec, e6, b2, b3, b5, k0, k1, k2, k3, k4, k5, p3]; try rfl) ?_
    clear hF
    intro a hF
    refine call_fs 3 (oi := { dst := some 60, op := Op.call { callee := Callee.value (Operand.func 27), args := #[Operand.tmp 59], argTypes := #[25] }, type := 4, pos := "ref.go:70", after := #[{ on := 2, ground := Ground.data }, { on := 1, ground := Ground.chain }, { on := 1, ground := Ground.guard }], guard := some (1, true) }) (d := 60) (R := fun v w' => v = .bool true) hF rfl rfl (by decide) (by kernel_rfl) (fun a' hA => hA.wantedB (j := 1) (dj := 58) (b := true) rfl (by kernel_rfl) (by decide) rfl) (fun a' hA => by have e59 := hA.get 59 rfl; have ef : ∀ f, a'.eval (.func f) = .func (.func f) #[] #[] := fun _ => rfl; clear hA; generalize a'.eval = ρ at *; simp [go_sem, ef, e59]) ((HX _ hS).mono ?_) ?_
    · rintro e w' ⟨rfl, hb⟩
      exact ⟨_, rfl, ret_val hrv, hS.trans (hb.mono hS.size)⟩
    clear hF
    rintro a v wd hF rfl hS
    refine take_fs' 4 [35] (oi := { dst := some 61, op := Op.pick (Operand.tmp 58) (Operand.tmp 60) (Operand.const (Value.bool false)), type := 4, pos := "ref.go:70", after := #[{ on := 1, ground := Ground.data }, { on := 3, ground := Ground.data }], guard := none }) (d := 61) (v := .bool true) hF hQ hS rfl rfl (by decide) (by kernel_rfl) (by kernel_rfl) (by kernel_rfl) (by kernel_rfl) (fun a' hA => wanted_none rfl) (fun a' hA w' hw => by have e58 := hA.get 58 rfl; have e60 := hA.get 60 rfl; have ec : ∀ v, a'.eval (.const v) = v := fun _ => rfl; clear hA; generalize a'.eval = ρ at *; simp [go_sem, ec, e58, e60]; try rfl) ?_
    clear hF
    intro a hF
    refine take_fs' 5 [35] (oi := { dst := some 62, op := Op.move (Operand.tmp 61), type := 4, pos := "ref.go:70", after := #[{ on := 4, ground := Ground.data }, { on := 3, ground := Ground.chain }], guard := none }) (d := 62) (v := .bool true) hF hQ hS rfl rfl (by decide) (by kernel_rfl) (by kernel_rfl) (by kernel_rfl) (by kernel_rfl) (fun a' hA => wanted_none rfl) (run_move_fs rfl rfl) ?_
    clear hF
    intro a hF
    refine take_fs' 6 [35] (oi := { dst := some 63, op := Op.fieldAddr 25 (Operand.tmp 6) 2, type := 0, pos := "ref.go:70", after := #[{ on := 5, ground := Ground.guard }], guard := some (5, true) }) (d := 63) (v := .pointer (some ⟨kb, 2, none⟩)) hF hQ hS rfl rfl (by decide) (by kernel_rfl) (by kernel_rfl) (by kernel_rfl) (by kernel_rfl) (fun a' hA => hA.wantedB (j := 5) (dj := 62) (b := true) rfl (by kernel_rfl) (by decide) rfl) (fun a' hA w' hw => by have e6 := hA.get 6 rfl; have ec : ∀ v, a'.eval (.const v) = v := fun _ => rfl; clear hA; generalize a'.eval = ρ at *; simp [go_sem, ec, e6]; try rfl) ?_
    clear hF
    intro a hF
    refine take_fs' 7 [35] (oi := { dst := some 64, op := Op.load 3 (Operand.tmp 63), type := 3, pos := "ref.go:70", after := #[{ on := 6, ground := Ground.data }, { on := 5, ground := Ground.guard }], guard := some (5, true) }) (d := 64) (v := .int .i64 xf) hF hQ hS rfl rfl (by decide) (by kernel_rfl) (by kernel_rfl) (by kernel_rfl) (by kernel_rfl) (fun a' hA => hA.wantedB (j := 5) (dj := 62) (b := true) rfl (by kernel_rfl) (by decide) rfl) (fun a' hA w' hw => by have e63 := hA.get 63 rfl; have ec : ∀ v, a'.eval (.const v) = v := fun _ => rfl; obtain ⟨b2, b3, b5, k0, k1, k2, k3, k4, k5⟩ := HS _ hw; have p3 := HP _ hw; clear hA; generalize a'.eval = ρ at *; simp [go_sem, ec, e63, b2, b3, b5, k0, k1, k2, k3, k4, k5, p3]; try rfl) ?_
    clear hF
    intro a hF
    refine take_fs' 8 [35] (oi := { dst := some 65, op := Op.fieldAddr 25 (Operand.tmp 1) 2, type := 0, pos := "ref.go:70", after := #[{ on := 5, ground := Ground.guard }], guard := some (5, true) }) (d := 65) (v := .pointer (some ⟨bb, 2, none⟩)) hF hQ hS rfl rfl (by decide) (by kernel_rfl) (by kernel_rfl) (by kernel_rfl) (by kernel_rfl) (fun a' hA => hA.wantedB (j := 5) (dj := 62) (b := true) rfl (by kernel_rfl) (by decide) rfl) (fun a' hA w' hw => by have e1 := hA.get 1 rfl; have ec : ∀ v, a'.eval (.const v) = v := fun _ => rfl; clear hA; generalize a'.eval = ρ at *; simp [go_sem, ec, e1]; try rfl) ?_
    clear hF
    intro a hF
    refine take_fs' 9 [35] (oi := { dst := some 66, op := Op.load 3 (Operand.tmp 65), type := 3, pos := "ref.go:70", after := #[{ on := 8, ground := Ground.data }, { on := 5, ground := Ground.guard }], guard := some (5, true) }) (d := 66) (v := .int .i64 f) hF hQ hS rfl rfl (by decide) (by kernel_rfl) (by kernel_rfl) (by kernel_rfl) (by kernel_rfl) (fun a' hA => hA.wantedB (j := 5) (dj := 62) (b := true) rfl (by kernel_rfl) (by decide) rfl) (fun a' hA w' hw => by have e65 := hA.get 65 rfl; have ec : ∀ v, a'.eval (.const v) = v := fun _ => rfl; obtain ⟨b2, b3, b5, k0, k1, k2, k3, k4, k5⟩ := HS _ hw; have p3 := HP _ hw; clear hA; generalize a'.eval = ρ at *; simp [go_sem, ec, e65, b2, b3, b5, k0, k1, k2, k3, k4, k5, p3]; try rfl) ?_
    clear hF
    intro a hF
    refine take_fs' 10 [35] (oi := { dst := some 67, op := Op.binOp BinOp.geq 3 (Operand.tmp 64) (Operand.tmp 66) 3, type := 4, pos := "ref.go:70", after := #[{ on := 7, ground := Ground.data }, { on := 9, ground := Ground.data }, { on := 5, ground := Ground.guard }], guard := some (5, true) }) (d := 67) (v := .bool true) hF hQ hS rfl rfl (by decide) (by kernel_rfl) (by kernel_rfl) (by kernel_rfl) (by kernel_rfl) (fun a' hA => hA.wantedB (j := 5) (dj := 62) (b := true) rfl (by kernel_rfl) (by decide) rfl) (fun a' hA w' hw => by have e64 := hA.get 64 rfl; have e66 := hA.get 66 rfl; have ec : ∀ v, a'.eval (.const v) = v := fun _ => rfl; clear hA; generalize a'.eval = ρ at *; simp [go_sem, ec, e64, e66, hc1]; try rfl) ?_
    clear hF
    intro a hF
    refine take_fs' 11 [35] (oi := { dst := some 68, op := Op.pick (Operand.tmp 62) (Operand.tmp 67) (Operand.const (Value.bool false)), type := 4, pos := "ref.go:70", after := #[{ on := 5, ground := Ground.data }, { on := 10, ground := Ground.data }], guard := none }) (d := 68) (v := .bool true) hF hQ hS rfl rfl (by decide) (by kernel_rfl) (by kernel_rfl) (by kernel_rfl) (by kernel_rfl) (fun a' hA => wanted_none rfl) (fun a' hA w' hw => by have e62 := hA.get 62 rfl; have e67 := hA.get 67 rfl; have ec : ∀ v, a'.eval (.const v) = v := fun _ => rfl; clear hA; generalize a'.eval = ρ at *; simp [go_sem, ec, e62, e67]; try rfl) ?_
    clear hF
    intro a hF
    refine take_fs' 12 [35] (oi := { dst := some 69, op := Op.move (Operand.tmp 68), type := 4, pos := "ref.go:70", after := #[{ on := 11, ground := Ground.data }, { on := 5, ground := Ground.chain }], guard := none }) (d := 69) (v := .bool true) hF hQ hS rfl rfl (by decide) (by kernel_rfl) (by kernel_rfl) (by kernel_rfl) (by kernel_rfl) (fun a' hA => wanted_none rfl) (run_move_fs rfl rfl) ?_
    clear hF
    intro a hF
    refine take_fs' 13 [35] (oi := { dst := some 70, op := Op.fieldAddr 25 (Operand.tmp 6) 3, type := 0, pos := "ref.go:70", after := #[{ on := 12, ground := Ground.guard }], guard := some (12, true) }) (d := 70) (v := .pointer (some ⟨kb, 3, none⟩)) hF hQ hS rfl rfl (by decide) (by kernel_rfl) (by kernel_rfl) (by kernel_rfl) (by kernel_rfl) (fun a' hA => hA.wantedB (j := 12) (dj := 69) (b := true) rfl (by kernel_rfl) (by decide) rfl) (fun a' hA w' hw => by have e6 := hA.get 6 rfl; have ec : ∀ v, a'.eval (.const v) = v := fun _ => rfl; clear hA; generalize a'.eval = ρ at *; simp [go_sem, ec, e6]; try rfl) ?_
    clear hF
    intro a hF
    refine take_fs' 14 [35] (oi := { dst := some 71, op := Op.load 3 (Operand.tmp 70), type := 3, pos := "ref.go:70", after := #[{ on := 13, ground := Ground.data }, { on := 12, ground := Ground.guard }], guard := some (12, true) }) (d := 71) (v := .int .i64 xt) hF hQ hS rfl rfl (by decide) (by kernel_rfl) (by kernel_rfl) (by kernel_rfl) (by kernel_rfl) (fun a' hA => hA.wantedB (j := 12) (dj := 69) (b := true) rfl (by kernel_rfl) (by decide) rfl) (fun a' hA w' hw => by have e70 := hA.get 70 rfl; have ec : ∀ v, a'.eval (.const v) = v := fun _ => rfl; obtain ⟨b2, b3, b5, k0, k1, k2, k3, k4, k5⟩ := HS _ hw; have p3 := HP _ hw; clear hA; generalize a'.eval = ρ at *; simp [go_sem, ec, e70, b2, b3, b5, k0, k1, k2, k3, k4, k5, p3]; try rfl) ?_
    clear hF
    intro a hF
    refine take_fs' 15 [35] (oi := { dst := some 72, op := Op.fieldAddr 25 (Operand.tmp 1) 3, type := 0, pos := "ref.go:70", after := #[{ on := 12, ground := Ground.guard }], guard := some (12, true) }) (d := 72) (v := .pointer (some ⟨bb, 3, none⟩)) hF hQ hS rfl rfl (by decide) (by kernel_rfl) (by kernel_rfl) (by kernel_rfl) (by kernel_rfl) (fun a' hA => hA.wantedB (j := 12) (dj := 69) (b := true) rfl (by kernel_rfl) (by decide) rfl) (fun a' hA w' hw => by have e1 := hA.get 1 rfl; have ec : ∀ v, a'.eval (.const v) = v := fun _ => rfl; clear hA; generalize a'.eval = ρ at *; simp [go_sem, ec, e1]; try rfl) ?_
    clear hF
    intro a hF
    refine take_fs' 16 [35] (oi := { dst := some 73, op := Op.load 3 (Operand.tmp 72), type := 3, pos := "ref.go:70", after := #[{ on := 15, ground := Ground.data }, { on := 12, ground := Ground.guard }], guard := some (12, true) }) (d := 73) (v := .int .i64 t) hF hQ hS rfl rfl (by decide) (by kernel_rfl) (by kernel_rfl) (by kernel_rfl) (by kernel_rfl) (fun a' hA => hA.wantedB (j := 12) (dj := 69) (b := true) rfl (by kernel_rfl) (by decide) rfl) (fun a' hA w' hw => by have e72 := hA.get 72 rfl; have ec : ∀ v, a'.eval (.const v) = v := fun _ => rfl; obtain ⟨b2, b3, b5, k0, k1, k2, k3, k4, k5⟩ := HS _ hw; have p3 := HP _ hw; clear hA; generalize a'.eval = ρ at *; simp [go_sem, ec, e72, b2, b3, b5, k0, k1, k2, k3, k4, k5, p3]; try rfl) ?_
    clear hF
    intro a hF
    refine take_fs' 17 [35] (oi := { dst := some 74, op := Op.binOp BinOp.leq 3 (Operand.tmp 71) (Operand.tmp 73) 3, type := 4, pos := "ref.go:70", after := #[{ on := 14, ground := Ground.data }, { on := 16, ground := Ground.data }, { on := 12, ground := Ground.guard }], guard := some (12, true) }) (d := 74) (v := .bool true) hF hQ hS rfl rfl (by decide) (by kernel_rfl) (by kernel_rfl) (by kernel_rfl) (by kernel_rfl) (fun a' hA => hA.wantedB (j := 12) (dj := 69) (b := true) rfl (by kernel_rfl) (by decide) rfl) (fun a' hA w' hw => by have e71 := hA.get 71 rfl; have e73 := hA.get 73 rfl; have ec : ∀ v, a'.eval (.const v) = v := fun _ => rfl; clear hA; generalize a'.eval = ρ at *; simp [go_sem, ec, e71, e73, hc2]; try rfl) ?_
    clear hF
    intro a hF
    refine take_fs' 18 [35] (oi := { dst := some 75, op := Op.pick (Operand.tmp 69) (Operand.tmp 74) (Operand.const (Value.bool false)), type := 4, pos := "ref.go:70", after := #[{ on := 12, ground := Ground.data }, { on := 17, ground := Ground.data }], guard := none }) (d := 75) (v := .bool true) hF hQ hS rfl rfl (by decide) (by kernel_rfl) (by kernel_rfl) (by kernel_rfl) (by kernel_rfl) (fun a' hA => wanted_none rfl) (fun a' hA w' hw => by have e69 := hA.get 69 rfl; have e74 := hA.get 74 rfl; have ec : ∀ v, a'.eval (.const v) = v := fun _ => rfl; clear hA; generalize a'.eval = ρ at *; simp [go_sem, ec, e69, e74]; try rfl) ?_
    clear hF
    intro a hF
    refine take_fs' 19 [35] (oi := { dst := some 76, op := Op.move (Operand.tmp 75), type := 4, pos := "ref.go:70", after := #[{ on := 18, ground := Ground.data }, { on := 12, ground := Ground.chain }], guard := none }) (d := 76) (v := .bool true) hF hQ hS rfl rfl (by decide) (by kernel_rfl) (by kernel_rfl) (by kernel_rfl) (by kernel_rfl) (fun a' hA => wanted_none rfl) (run_move_fs rfl rfl) ?_
    clear hF
    intro a hF
    refine take_fs' 20 [35] (oi := { dst := some 77, op := Op.move (Operand.tmp 5), type := 3, pos := "ref.go:70", after := #[{ on := 19, ground := Ground.guard }], guard := some (19, true) }) (d := 77) (v := .int .i64 (i : Int)) hF hQ hS rfl rfl (by decide) (by kernel_rfl) (by kernel_rfl) (by kernel_rfl) (by kernel_rfl) (fun a' hA => hA.wantedB (j := 19) (dj := 76) (b := true) rfl (by kernel_rfl) (by decide) rfl) (run_move_fs rfl rfl) ?_
    clear hF
    intro a hF
    refine take_fs' 21 [35] (oi := { dst := some 78, op := Op.binOp BinOp.eql 3 (Operand.tmp 77) (Operand.const (Value.int IntKind.i64 0)) 3, type := 4, pos := "ref.go:70", after := #[{ on := 20, ground := Ground.data }, { on := 19, ground := Ground.guard }], guard := some (19, true) }) (d := 78) (v := .bool false) hF hQ hS rfl rfl (by decide) (by kernel_rfl) (by kernel_rfl) (by kernel_rfl) (by kernel_rfl) (fun a' hA => hA.wantedB (j := 19) (dj := 76) (b := true) rfl (by kernel_rfl) (by decide) rfl) (fun a' hA w' hw => by have e77 := hA.get 77 rfl; have ec : ∀ v, a'.eval (.const v) = v := fun _ => rfl; clear hA; generalize a'.eval = ρ at *; simp [go_sem, ec, e77, hz]; try rfl) ?_
    clear hF
    intro a hF
    refine take_fs' 22 [35] (oi := { dst := some 79, op := Op.move (Operand.tmp 78), type := 4, pos := "ref.go:70", after := #[{ on := 21, ground := Ground.data }, { on := 19, ground := Ground.chain }, { on := 19, ground := Ground.guard }], guard := some (19, true) }) (d := 79) (v := .bool false) hF hQ hS rfl rfl (by decide) (by kernel_rfl) (by kernel_rfl) (by kernel_rfl) (by kernel_rfl) (fun a' hA => hA.wantedB (j := 19) (dj := 76) (b := true) rfl (by kernel_rfl) (by decide) rfl) (run_move_fs rfl rfl) ?_
    clear hF
    intro a hF
    refine take_fs' 23 [35] (oi := { dst := some 80, op := Op.fieldAddr 25 (Operand.tmp 6) 2, type := 0, pos := "ref.go:70", after := #[{ on := 22, ground := Ground.guard }], guard := some (22, false) }) (d := 80) (v := .pointer (some ⟨kb, 2, none⟩)) hF hQ hS rfl rfl (by decide) (by kernel_rfl) (by kernel_rfl) (by kernel_rfl) (by kernel_rfl) (fun a' hA => hA.wantedB (j := 22) (dj := 79) (b := false) rfl (by kernel_rfl) (by decide) rfl) (fun a' hA w' hw => by have e6 := hA.get 6 rfl; have ec : ∀ v, a'.eval (.const v) = v := fun _ => rfl; clear hA; generalize a'.eval = ρ at *; simp [go_sem, ec, e6]; try rfl) ?_
    clear hF
    intro a hF
    refine take_fs' 24 [35] (oi := { dst := some 81, op := Op.load 3 (Operand.tmp 80), type := 3, pos := "ref.go:70", after := #[{ on := 23, ground := Ground.data }, { on := 22, ground := Ground.guard }], guard := some (22, false) }) (d := 81) (v := .int .i64 xf) hF hQ hS rfl rfl (by decide) (by kernel_rfl) (by kernel_rfl) (by kernel_rfl) (by kernel_rfl) (fun a' hA => hA.wantedB (j := 22) (dj := 79) (b := false) rfl (by kernel_rfl) (by decide) rfl) (fun a' hA w' hw => by have e80 := hA.get 80 rfl; have ec : ∀ v, a'.eval (.const v) = v := fun _ => rfl; obtain ⟨b2, b3, b5, k0, k1, k2, k3, k4, k5⟩ := HS _ hw; have p3 := HP _ hw; clear hA; generalize a'.eval = ρ at *; simp [go_sem, ec, e80, b2, b3, b5, k0, k1, k2, k3, k4, k5, p3]; try rfl) ?_
    clear hF
    intro a hF
    refine take_fs' 25 [35] (oi := { dst := some 82, op := Op.fieldAddr 25 (Operand.tmp 1) 5, type := 0, pos := "ref.go:70", after := #[{ on := 22, ground := Ground.guard }], guard := some (22, false) }) (d := 82) (v := .pointer (some ⟨bb, 5, none⟩)) hF hQ hS rfl rfl (by decide) (by kernel_rfl) (by kernel_rfl) (by kernel_rfl) (by kernel_rfl) (fun a' hA => hA.wantedB (j := 22) (dj := 79) (b := false) rfl (by kernel_rfl) (by decide) rfl) (fun a' hA w' hw => by have e1 := hA.get 1 rfl; have ec : ∀ v, a'.eval (.const v) = v := fun _ => rfl; clear hA; generalize a'.eval = ρ at *; simp [go_sem, ec, e1]; try rfl) ?_
    clear hF
    intro a hF
    refine take_fs' 26 [35] (oi := { dst := some 83, op := Op.load 23 (Operand.tmp 82), type := 23, pos := "ref.go:70", after := #[{ on := 25, ground := Ground.data }, { on := 22, ground := Ground.guard }], guard := some (22, false) }) (d := 83) (v := .slice (some ⟨b1, off, none⟩) kn kc) hF hQ hS rfl rfl (by decide) (by kernel_rfl) (by kernel_rfl) (by kernel_rfl) (by kernel_rfl) (fun a' hA => hA.wantedB (j := 22) (dj := 79) (b := false) rfl (by kernel_rfl) (by decide) rfl) (fun a' hA w' hw => by have e82 := hA.get 82 rfl; have ec : ∀ v, a'.eval (.const v) = v := fun _ => rfl; obtain ⟨b2, b3, b5, k0, k1, k2, k3, k4, k5⟩ := HS _ hw; have p3 := HP _ hw; clear hA; generalize a'.eval = ρ at *; simp [go_sem, ec, e82, b2, b3, b5, k0, k1, k2, k3, k4, k5, p3]; try rfl) ?_
    clear hF
    intro a hF
    refine take_fs' 27 [35] (oi := { dst := some 84, op := Op.move (Operand.tmp 5), type := 3, pos := "ref.go:70", after := #[{ on := 22, ground := Ground.guard }], guard := some (22, false) }) (d := 84) (v := .int .i64 (i : Int)) hF hQ hS rfl rfl (by decide) (by kernel_rfl) (by kernel_rfl) (by kernel_rfl) (by kernel_rfl) (fun a' hA => hA.wantedB (j := 22) (dj := 79) (b := false) rfl (by kernel_rfl) (by decide) rfl) (run_move_fs rfl rfl) ?_
    clear hF
    intro a hF
    refine take_fs' 28 [35] (oi := { dst := some 85, op := Op.binOp BinOp.sub 3 (Operand.tmp 84) (Operand.const (Value.int IntKind.i64 1)) 3, type := 3, pos := "ref.go:70", after := #[{ on := 27, ground := Ground.data }, { on := 22, ground := Ground.guard }], guard := some (22, false) }) (d := 85) (v := .int .i64 (i1 : Int)) hF hQ hS rfl rfl (by decide) (by kernel_rfl) (by kernel_rfl) (by kernel_rfl) (by kernel_rfl) (fun a' hA => hA.wantedB (j := 22) (dj := 79) (b := false) rfl (by kernel_rfl) (by decide) rfl) (fun a' hA w' hw => by have e84 := hA.get 84 rfl; have ec : ∀ v, a'.eval (.const v) = v := fun _ => rfl; clear hA; generalize a'.eval = ρ at *; simp [go_sem, ec, e84, hi1, hwr]; try rfl) ?_
    clear hF
    intro a hF
    refine take_fs' 29 [35] (oi := { dst := some 86, op := Op.indexAddr 23 (Operand.tmp 83) (Operand.tmp 85), type := 0, pos := "ref.go:70", after := #[{ on := 26, ground := Ground.data }, { on := 28, ground := Ground.data }, { on := 22, ground := Ground.guard }], guard := some (22, false) }) (d := 86) (v := .pointer (some ⟨b1, off + i1 * 6, none⟩)) hF hQ hS rfl rfl (by decide) (by kernel_rfl) (by kernel_rfl) (by kernel_rfl) (by kernel_rfl) (fun a' hA => hA.wantedB (j := 22) (dj := 79) (b := false) rfl (by kernel_rfl) (by decide) rfl) (fun a' hA w' hw => by have e83 := hA.get 83 rfl; have e85 := hA.get 85 rfl; have ec : ∀ v, a'.eval (.const v) = v := fun _ => rfl; clear hA; generalize a'.eval = ρ at *; simp [go_sem, ec, e83, e85, hx1, hx2]; try rfl) ?_
    clear hF
    intro a hF
    refine take_fs' 30 [35] (oi := { dst := some 87, op := Op.fieldAddr 25 (Operand.tmp 86) 3, type := 0, pos := "ref.go:70", after := #[{ on := 29, ground := Ground.data }, { on := 22, ground := Ground.guard }], guard := some (22, false) }) (d := 87) (v := .pointer (some ⟨b1, off + i1 * 6 + 3, none⟩)) hF hQ hS rfl rfl (by decide) (by kernel_rfl) (by kernel_rfl) (by kernel_rfl) (by kernel_rfl) (fun a' hA => hA.wantedB (j := 22) (dj := 79) (b := false) rfl (by kernel_rfl) (by decide) rfl) (fun a' hA w' hw => by have e86 := hA.get 86 rfl; have ec : ∀ v, a'.eval (.const v) = v := fun _ => rfl; clear hA; generalize a'.eval = ρ at *; simp [go_sem, ec, e86]; try rfl) ?_
    clear hF
    intro a hF
    refine take_fs' 31 [35] (oi := { dst := some 88, op := Op.load 3 (Operand.tmp 87), type := 3, pos := "ref.go:70", after := #[{ on := 30, ground := Ground.data }, { on := 22, ground := Ground.guard }], guard := some (22, false) }) (d := 88) (v := .int .i64 pt) hF hQ hS rfl rfl (by decide) (by kernel_rfl) (by kernel_rfl) (by kernel_rfl) (by kernel_rfl) (fun a' hA => hA.wantedB (j := 22) (dj := 79) (b := false) rfl (by kernel_rfl) (by decide) rfl) (fun a' hA w' hw => by have e87 := hA.get 87 rfl; have ec : ∀ v, a'.eval (.const v) = v := fun _ => rfl; obtain ⟨b2, b3, b5, k0, k1, k2, k3, k4, k5⟩ := HS _ hw; have p3 := HP _ hw; clear hA; generalize a'.eval = ρ at *; simp [go_sem, ec, e87, b2, b3, b5, k0, k1, k2, k3, k4, k5, p3]; try rfl) ?_
    clear hF
    intro a hF
    refine take_fs' 32 [35] (oi := { dst := some 89, op := Op.binOp BinOp.geq 3 (Operand.tmp 81) (Operand.tmp 88) 3, type := 4, pos := "ref.go:70", after := #[{ on := 24, ground := Ground.data }, { on := 31, ground := Ground.data }, { on := 22, ground := Ground.guard }], guard := some (22, false) }) (d := 89) (v := .bool true) hF hQ hS rfl rfl (by decide) (by kernel_rfl) (by kernel_rfl) (by kernel_rfl) (by kernel_rfl) (fun a' hA => hA.wantedB (j := 22) (dj := 79) (b := false) rfl (by kernel_rfl) (by decide) rfl) (fun a' hA w' hw => by have e81 := hA.get 81 rfl; have e88 := hA.get 88 rfl; have ec : ∀ v, a'.eval (.const v) = v := fun _ => rfl; clear hA; generalize a'.eval = ρ at *; simp [go_sem, ec, e81, e88, hc3]; try rfl) ?_
    clear hF
    intro a hF
    refine take_fs' 33 [35] (oi := { dst := some 90, op := Op.pick (Operand.tmp 79) (Operand.const (Value.bool true)) (Operand.tmp 89), type := 4, pos := "ref.go:70", after := #[{ on := 22, ground := Ground.data }, { on := 32, ground := Ground.data }, { on := 19, ground := Ground.guard }], guard := some (19, true) }) (d := 90) (v := .bool true) hF hQ hS rfl rfl (by decide) (by kernel_rfl) (by kernel_rfl) (by kernel_rfl) (by kernel_rfl) (fun a' hA => hA.wantedB (j := 19) (dj := 76) (b := true) rfl (by kernel_rfl) (by decide) rfl) (fun a' hA w' hw => by have e79 := hA.get 79 rfl; have e89 := hA.get 89 rfl; have ec : ∀ v, a'.eval (.const v) = v := fun _ => rfl; clear hA; generalize a'.eval = ρ at *; simp [go_sem, ec, e79, e89]; try rfl) ?_
    clear hF
    intro a hF
    refine take_fs' 34 [35] (oi := { dst := some 91, op := Op.pick (Operand.tmp 76) (Operand.tmp 90) (Operand.const (Value.bool false)), type := 4, pos := "ref.go:70", after := #[{ on := 19, ground := Ground.data }, { on := 33, ground := Ground.data }], guard := none }) (d := 91) (v := .bool true) hF hQ hS rfl rfl (by decide) (by kernel_rfl) (by kernel_rfl) (by kernel_rfl) (by kernel_rfl) (fun a' hA => wanted_none rfl) (fun a' hA w' hw => by have e76 := hA.get 76 rfl; have e90 := hA.get 90 rfl; have ec : ∀ v, a'.eval (.const v) = v := fun _ => rfl; clear hA; generalize a'.eval = ρ at *; simp [go_sem, ec, e76, e90]; try rfl) ?_
    clear hF
    intro a hF
    refine last_fs 35 (oi := { dst := some 3, op := Op.assign (Operand.tmp 91), type := 4, pos := "ref.go:70", after := #[{ on := 34, ground := Ground.data }, { on := 22, ground := Ground.chain }, { on := 0, ground := Ground.phase }, { on := 1, ground := Ground.phase }, { on := 2, ground := Ground.phase }, { on := 3, ground := Ground.phase }, { on := 4, ground := Ground.phase }, { on := 5, ground := Ground.phase }, { on := 6, ground := Ground.phase }, { on := 7, ground := Ground.phase }, { on := 8, ground := Ground.phase }, { on := 9, ground := Ground.phase }, { on := 10, ground := Ground.phase }, { on := 11, ground := Ground.phase }, { on := 12, ground := Ground.phase }, { on := 13, ground := Ground.phase }, { on := 14, ground := Ground.phase }, { on := 15, ground := Ground.phase }, { on := 16, ground := Ground.phase }, { on := 17, ground := Ground.phase }, { on := 18, ground := Ground.phase }, { on := 19, ground := Ground.phase }, { on := 20, ground := Ground.phase }, { on := 21, ground := Ground.phase }, { on := 22, ground := Ground.phase }, { on := 23, ground := Ground.phase }, { on := 24, ground := Ground.phase }, { on := 25, ground := Ground.phase }, { on := 26, ground := Ground.phase }, { on := 27, ground := Ground.phase }, { on := 28, ground := Ground.phase }, { on := 29, ground := Ground.phase }, { on := 30, ground := Ground.phase }, { on := 31, ground := Ground.phase }, { on := 32, ground := Ground.phase }, { on := 33, ground := Ground.phase }, { on := 34, ground := Ground.phase }], guard := none }) (d := 3) (v := .bool true) hF rfl rfl (by decide) (by kernel_rfl) (by kernel_rfl) (by kernel_rfl) (fun a' hA => wanted_none rfl) (fun a' hA => by rw [BigFrame.run_assign (.tmp 91) rfl, hA.get 91 rfl]) ?_
    intro a' hF'
    exact H a' _ (by rw [hres]; exact Fs.of hF'.1 hF'.2.1 (by simp only [List.forall_mem_cons]; exact ⟨hF'.get 1 rfl, hF'.get 3 rfl, hF'.get 5 rfl, hF'.get 6 rfl, by simp⟩)) (fun k v h1 h3 h5 h6 hk => by
      have hkk := hLx k v hk
      refine hF'.2.2 k v ?_
      simp only [List.cons_append, List.nil_append]
      rw [look_skip (by omega)]
      rw [look_skip (by omega)]
      rw [look_skip (by omega)]
      rw [look_skip (by omega)]
      rw [look_skip (by omega)]
      rw [look_skip (by omega)]
      rw [look_skip (by omega)]
      rw [look_skip (by omega)]
      rw [look_skip (by omega)]
      rw [look_skip (by omega)]
      rw [look_skip (by omega)]
      rw [look_skip (by omega)]
      rw [look_skip (by omega)]
      rw [look_skip (by omega)]
      rw [look_skip (by omega)]
      rw [look_skip (by omega)]
      rw [look_skip (by omega)]
      rw [look_skip (by omega)]
      rw [look_skip (by omega)]
      rw [look_skip (by omega)]
      rw [look_skip (by omega)]
      rw [look_skip (by omega)]
      rw [look_skip (by omega)]
      rw [look_skip (by omega)]
      rw [look_skip (by omega)]
      rw [look_skip (by omega)]
      rw [look_skip (by omega)]
      rw [look_skip (by omega)]
      rw [look_skip (by omega)]
      rw [look_skip (by omega)]
      rw [look_skip (by omega)]
      rw [look_skip (by omega)]
      rw [look_skip (by omega)]
      rw [look_skip (by omega)]
      rw [look_skip (by omega)]
      rw [look_skip (by omega)]
      rw [look_skip (by omega)]
      rw [look_skip (by omega)]
      rw [look_skip (by omega)]
      rw [look_skip (by omega)]
      exact hk) hS
end Go.Proofs.Ytcijjeflojaocaa
