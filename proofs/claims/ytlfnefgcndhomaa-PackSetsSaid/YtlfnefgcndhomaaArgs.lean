/-
  Arguments that are slices of numbers, and arrays of three, read as lists.
-/
import Derived.Test.YtlfnefgcndhomaaBase
import Derived.Deep.Slices
import Derived.Deep.SlicePairs
import Derived.ChangeSame
import Derived.ProofKit
import Derived.OpenShut
import Derived.ChangeOld
import Derived.Carry
import Derived.Lib.SmallJoins
namespace Go.Proofs.Ytlfnefgcndhomaa
open Go.ChangeShapes Go.WideShapes Go.ChangeAt Go.RowKit Go.Deep
set_option linter.unusedVariables false

theorem slice_arg {H : Type} {enc : TypeId × Value → H} {W : World} {base : Nat} {v : Value} {d : DataW H} {p : List MemPlace} {T E : TypeId} {k : IntKind} (hT : Try.prog.underlying T = some (.slice E)) (hE : Try.prog.underlying E = some (.int k)) (hce : Try.prog.cellsOf E = 1)
    (hv : Value.okWide Try.prog W .any base T v)
    (h : DataW.Trod enc Try.prog W 0 (fun _ => true) true T v d p) : ∃ q n cap l, v = .slice q n cap ∧ n ≤ 9223372036854775807 ∧ In (fun x : Int => Value.int k x) W q n cap l ∧ ∀ x ∈ l, (Lit.int k x).wf = true := by
  obtain ⟨p', n, c, rfl⟩ := okWide_slice hT hv
  obtain ⟨fuel, hf⟩ := h
  rcases open_slice hT hf with ⟨hcs, _⟩ | ⟨a, len, cap, m, nn, D, Pl, hcs, _, hl, hm, hmm, _, hel⟩
  · simp [Value.cells] at hcs
    obtain ⟨rfl, rfl, rfl⟩ := hcs
    exact ⟨none, 0, 0, [], rfl, by omega, ⟨rfl, .inl rfl⟩, fun x hx => by simp at hx⟩
  · simp [Value.cells] at hcs
    obtain ⟨rfl, rfl, rfl⟩ := hcs
    rw [if_pos rfl] at hmm
    subst hmm
    have hn63 : n ≤ 9223372036854775807 := by unfold maxLen at hm; omega
    cases n with
    | zero => exact ⟨some a, 0, m, [], rfl, by omega, ⟨rfl, .inl rfl⟩, fun x hx => by simp at hx⟩
    | succ j =>
      have each : ∀ i, i < m → ∃ x : Int, W.cell? (a.add i) = some (.int k x) ∧ (Lit.int k x).wf = true := fun i hi => by
        obtain ⟨cs', h1, h2⟩ := hel i hi
        rw [hce, Nat.mul_one] at h1
        obtain ⟨_, hlen, hcell⟩ := World.cells?_some h1
        obtain ⟨x, hx, _, hw⟩ := DataW.trod_int hE h2
        have c0 := hcell 0 (by omega)
        rw [hx] at c0
        have ha : (a.add i).add 0 = a.add i := by unfold Addr.add; simp
        rw [ha] at c0
        exact ⟨x, by simpa using c0, hw⟩
      have h00 := each 0 (by omega)
      obtain ⟨b, off, spot⟩ := a
      obtain ⟨x0, h0, _⟩ := h00
      have hspot : spot = none := by simpa [Addr.add] using World.cell?_spot h0
      subst hspot
      have hadd : ∀ k, (⟨b, off, none⟩ : Addr).add k = ⟨b, off + k, none⟩ := fun k => by
        unfold Addr.add; split <;> simp_all
      obtain ⟨q, hq⟩ := choose_lt each
      refine ⟨some ⟨b, off, none⟩, j + 1, m, (List.range (j + 1)).map q, rfl, hn63, ⟨by simp, .inr ⟨b, off, rfl, hl, World.block_lt_of_cell? W _ h0, ?_⟩⟩, ?_⟩
      · intro i hi
        have hi2 : i < m := by simp at hi; omega
        obtain ⟨c0, _⟩ := hq i hi2
        simp only [List.getElem_map, List.getElem_range]
        rw [hadd] at c0
        exact c0
      · intro x hx
        obtain ⟨i, hi, rfl⟩ := List.mem_map.1 hx
        exact (hq i (by have := List.mem_range.1 hi; omega)).2

theorem wf_range_i64 {x : Int} (h : (Lit.int .i64 x).wf = true) : -9223372036854775808 ≤ x ∧ x ≤ 9223372036854775807 := by
  simp [Lit.wf, IntKind.min, IntKind.max, IntKind.bits, IntKind.signed] at h; omega
theorem wf_range_u64 {x : Int} (h : (Lit.int .u64 x).wf = true) : 0 ≤ x ∧ x < 18446744073709551616 := by
  simp [Lit.wf, IntKind.min, IntKind.max, IntKind.bits, IntKind.signed] at h; omega
theorem wf_range_u8 {x : Int} (h : (Lit.int .u8 x).wf = true) : 0 ≤ x ∧ x < 256 := by
  simp [Lit.wf, IntKind.min, IntKind.max, IntKind.bits, IntKind.signed] at h; omega
theorem In.map {α β : Type} {mk : α → Value} {mk' : β → Value} {w : World} {p : Option Addr} {n cap : Nat} {l : List α} (h : In mk w p n cap l) (f : α → β) (hf : ∀ x ∈ l, mk x = mk' (f x)) : In mk' w p n cap (l.map f) := by
  obtain ⟨rfl, h0 | ⟨b, off, rfl, hc, hb, hat⟩⟩ := h
  · exact ⟨by simp, .inl h0⟩
  · refine ⟨by simp, .inr ⟨b, off, rfl, hc, hb, fun i hi => ?_⟩⟩
    have hi' : i < l.length := by simpa using hi
    rw [List.getElem_map, ← hf _ (List.getElem_mem hi')]
    exact hat i hi'

theorem ints_arg {H : Type} {enc : TypeId × Value → H} {W : World} {base : Nat} {v : Value} {d : DataW H} {p : List MemPlace} (hv : Value.okWide Try.prog W .any base 41 v)
    (h : DataW.Trod enc Try.prog W 0 (fun _ => true) true 41 v d p) : ∃ q n cap l, v = .slice q n cap ∧ n ≤ 9223372036854775807 ∧ In mkI W q n cap l ∧ ∀ x ∈ l, -9223372036854775808 ≤ x ∧ x ≤ 9223372036854775807 := by
  obtain ⟨q, n, cap, l, rfl, hn, hin, hw⟩ := slice_arg Try.underlying41 Try.underlying3 (by kernel_rfl) hv h
  exact ⟨q, n, cap, l, rfl, hn, hin, fun x hx => wf_range_i64 (hw x hx)⟩
theorem bytes_arg {H : Type} {enc : TypeId × Value → H} {W : World} {base : Nat} {v : Value} {d : DataW H} {p : List MemPlace} (hv : Value.okWide Try.prog W .any base 32 v)
    (h : DataW.Trod enc Try.prog W 0 (fun _ => true) true 32 v d p) : ∃ q n cap l, v = .slice q n cap ∧ n ≤ 9223372036854775807 ∧ In mkB W q n cap l := by
  obtain ⟨q, n, cap, l, rfl, hn, hin, hw⟩ := slice_arg Try.underlying32 Try.underlying5 (by kernel_rfl) hv h
  refine ⟨q, n, cap, _, rfl, hn, hin.map (mk' := mkB) (fun x => UInt8.ofNat x.toNat) fun x hx => ?_⟩
  have := wf_range_u8 (hw x hx)
  show Value.int .u8 x = Value.int .u8 _
  congr 1
  show x = ((x.toNat % 256 : Nat) : Int)
  omega
theorem words_arg {H : Type} {enc : TypeId × Value → H} {W : World} {base : Nat} {v : Value} {d : DataW H} {p : List MemPlace} (hv : Value.okWide Try.prog W .any base 53 v)
    (h : DataW.Trod enc Try.prog W 0 (fun _ => true) true 53 v d p) : ∃ q n cap l, v = .slice q n cap ∧ n ≤ 9223372036854775807 ∧ In mkW W q n cap l ∧ ∀ x ∈ l, x < 18446744073709551616 := by
  obtain ⟨q, n, cap, l, rfl, hn, hin, hw⟩ := slice_arg Try.underlying53 Try.underlying23 (by kernel_rfl) hv h
  refine ⟨q, n, cap, _, rfl, hn, hin.map (mk' := mkW) (fun x => x.toNat) fun x hx => ?_, fun y hy => ?_⟩
  · have := wf_range_u64 (hw x hx)
    show Value.int .u64 x = Value.int .u64 _
    congr 1
    omega
  · obtain ⟨x, hx, rfl⟩ := List.mem_map.1 hy
    have := wf_range_u64 (hw x hx)
    omega
theorem word_arg {H : Type} {enc : TypeId × Value → H} {W : World} {base : Nat} {v : Value} {d : DataW H} {p : List MemPlace} (hv : Value.okWide Try.prog W .any base 23 v)
    (h : DataW.Trod enc Try.prog W 0 (fun _ => true) true 23 v d p) : ∃ x : Nat, v = .int .u64 (x : Int) ∧ x < 18446744073709551616 := by
  obtain ⟨x, rfl, _, _, hw⟩ := open_int Try.underlying23 hv h
  have := wf_range_u64 hw
  exact ⟨x.toNat, by congr 1; omega, by omega⟩
theorem arr_arg {H : Type} {enc : TypeId × Value → H} {W : World} {base : Nat} {v : Value} {d : DataW H} {p : List MemPlace} (hv : Value.okWide Try.prog W .any base 22 v)
    (h : DataW.Trod enc Try.prog W 0 (fun _ => true) true 22 v d p) : ∃ x y z : Int, v = .agg #[.int .i64 x, .int .i64 y, .int .i64 z] ∧ (-9223372036854775808 ≤ x ∧ x ≤ 9223372036854775807) ∧ (-9223372036854775808 ≤ y ∧ y ≤ 9223372036854775807) ∧ (-9223372036854775808 ≤ z ∧ z ≤ 9223372036854775807) := by
  have hu : Try.prog.underlying 22 = some (.array 3 3) := Try.underlying22
  have hc22 : Try.prog.cellsOf 22 = 3 := by kernel_rfl
  have hc3 : Try.prog.cellsOf 3 = 1 := by kernel_rfl
  simp only [Value.okWide, hu] at hv
  obtain ⟨cs, rfl, hsz, _⟩ := hv
  rw [hc22] at hsz
  obtain ⟨c0, c1, c2, rfl⟩ : ∃ c0 c1 c2, cs = #[c0, c1, c2] := by
    match cs, hsz with
    | ⟨[c0, c1, c2]⟩, _ => exact ⟨c0, c1, c2, rfl⟩
  obtain ⟨fuel, hf⟩ := h
  obtain ⟨xs, m, _, _, hlen, hxl, hall⟩ := DataW.trod_array hu hf
  have g0 := hall 0 (by omega)
  have g1 := hall 1 (by omega)
  have g2 := hall 2 (by omega)
  simp only [Value.cells, hc3] at g0 g1 g2
  match xs, hxl with
  | [y0, y1, y2], _ =>
    simp at g0 g1 g2
    obtain ⟨i0, e0, _, w0⟩ := DataW.trod_int Try.underlying3 g0
    obtain ⟨i1, e1, _, w1⟩ := DataW.trod_int Try.underlying3 g1
    obtain ⟨i2, e2, _, w2⟩ := DataW.trod_int Try.underlying3 g2
    simp only [List.cons.injEq, and_true] at e0 e1 e2
    subst e0 e1 e2
    exact ⟨i0, i1, i2, rfl, wf_range_i64 w0, wf_range_i64 w1, wf_range_i64 w2⟩
end Go.Proofs.Ytlfnefgcndhomaa
