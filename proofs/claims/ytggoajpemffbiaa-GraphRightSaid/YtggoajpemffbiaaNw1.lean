/-
  New's and Spare's questions, walked: is a number none of a set's?
-/
import Derived.Test.YtggoajpemffbiaaThz
namespace Go.Proofs.Ytggoajpemffbiaa
open Go.RowKit
set_option maxRecDepth 20000
set_option linter.unusedVariables false
set_option linter.unusedSimpArgs false

theorem cf_enter {f : FuncId} {fn : Func} (hf : Try.prog.funcs[f]? = some fn) (hname : (fn.name == "runtime.NumGoroutine") = false) (hb : fn.body.isNone = false) (args : Array Value) (w : World) :
    Sem.run Try.prog (callFunc f args) w = .ok (.enter f args) w := by
  have h1 : fn.name ≠ "runtime.NumGoroutine" := by simpa using hname
  show (callFunc f args).run Try.prog w = .ok (.enter f args) w
  obtain ⟨c, hc⟩ : ∃ c, fn.body = some c := by cases e : fn.body <;> simp_all
  simp [callFunc, hf, h1, hc]
theorem cf25 (args : Array Value) (w : World) : Sem.run Try.prog (callFunc 25 args) w = .ok (.enter 25 args) w := cf_enter Try.func25 (by kernel_rfl) (by kernel_rfl) args w
theorem cf24 (args : Array Value) (w : World) : Sem.run Try.prog (callFunc 24 args) w = .ok (.enter 24 args) w := cf_enter Try.func24 (by kernel_rfl) (by kernel_rfl) args w
theorem cf29 (args : Array Value) (w : World) : Sem.run Try.prog (callFunc 29 args) w = .ok (.enter 29 args) w := cf_enter Try.func29 (by kernel_rfl) (by kernel_rfl) args w
theorem cf20 (args : Array Value) (w : World) : Sem.run Try.prog (callFunc 20 args) w = .ok (.enter 20 args) w := cf_enter Try.func20 (by kernel_rfl) (by kernel_rfl) args w
theorem cf32 (args : Array Value) (w : World) : Sem.run Try.prog (callFunc 32 args) w = .ok (.enter 32 args) w := cf_enter Try.func32 (by kernel_rfl) (by kernel_rfl) args w
theorem wpList_setlook (w : World) {ops : Array Oper} {rest : List Oper} {o : Oper} {a : Act} {Q : Exit → Act → World → Prop} (hg : o.guard = none) (m x : Operand) (hop : o.op = Op.lookup 48 m x true)
    (b : Nat) (l : List Int) (hm : a.eval m = .map (some b)) (h : SetI w b l) (c : Int) (hc : W64 c) (hx : a.eval x = .int .i64 c)
    (hK : wpList Try.prog ops Q rest (a.put o.dst (.tuple #[.agg #[], .bool (inI l c)])) w) : wpList Try.prog ops Q (o :: rest) a w := by
  refine wpList_plain hg fun K' hK' => ?_
  have hrun := h.look hc
  unfold Oper.wp
  simp only [execOp, hop, hm, hx]
  simp only [hrun, Sem.run_bind, Result.andThen]
  exact hK' _ _ hK
theorem wpList_setupd (w : World) {ops : Array Oper} {rest : List Oper} {o : Oper} {a : Act} {Q : Exit → Act → World → Prop} (hg : o.guard = none) (m x v : Operand) (hop : o.op = Op.mapUpdate 48 m x v)
    (b : Nat) (l : List Int) (hm : a.eval m = .map (some b)) (h : SetI w b l) (c : Int) (hc : W64 c) (hx : a.eval x = .int .i64 c) (hv : a.eval v = .agg #[])
    (hK : ∀ w', SetI w' b (addI l c) → Wr b w w' → wpList Try.prog ops Q rest (a.put o.dst undef) w') : wpList Try.prog ops Q (o :: rest) a w := by
  refine wpList_plain hg fun K' hK' => ?_
  obtain ⟨w', hrun, r1, r2⟩ := h.upd hc
  unfold Oper.wp
  simp [execOp, hop, hm, hx, hv, hrun, Result.andThen]
  exact hK' _ _ (hK w' r1 r2)
set_option maxHeartbeats 2000000 in
theorem new1_any (x : Int) (bx mb : Nat) (ks : List Int) (w : World) (hb : w.cell? ⟨bx, 0, none⟩ = some (.map (some mb))) (hS : SetI w mb ks) (hx : W64 x) :
    Calls Try.prog 25 #[.int .i64 x, .pointer (some ⟨bx, 0, none⟩)] w fun e w' => e = .returned (.bool (!inI ks x)) ∧ Below w.heap.size w w' := by
  have HS := Lib.hid hS
  have HX := Lib.hid hx
  clear hS hx
  generalize hq : inI ks x = q
  have HQ := Lib.hid hq
  clear hq
  go_enter Try.func25, Try.ntmps25
  go_wp2_with (at_lookup; refine wpList_setlook _ rfl _ _ rfl mb ks rfl HS.out x HX.out rfl ?_; rw [HQ.out])
  go_ret
  exact ⟨rfl, (Below.refl _ _).alloc (Nat.le_refl _) _⟩
end Go.Proofs.Ytggoajpemffbiaa
