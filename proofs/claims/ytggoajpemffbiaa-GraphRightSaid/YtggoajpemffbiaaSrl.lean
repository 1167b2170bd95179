/-
  Links put in order (slices.SortFunc at links).
-/
import Derived.Test.YtggoajpemffbiaaCmp
namespace Go.Proofs.Ytggoajpemffbiaa
open Go.RowKit Go.Sort
set_option maxRecDepth 20000
set_option linter.unusedVariables false
set_option linter.unusedSimpArgs false

def srt (l : List P2) : List P2 := l.mergeSort fun x y => !ltL y x
theorem srt_mem (l : List P2) (x : P2) : x ∈ srt l ↔ x ∈ l := (List.mergeSort_perm l _).mem_iff
theorem srt_len (l : List P2) : (srt l).length = l.length := (List.mergeSort_perm l _).length_eq
theorem srt_sorted (l : List P2) : (srt l).Pairwise fun a b => plt b a = false := by
  have h := List.pairwise_mergeSort (le := fun x y => !ltL y x) (fun a b c h1 h2 => by
    rw [ltL_plt] at *
    simp only [Bool.not_eq_true'] at *
    cases h : plt c a with
    | false => rfl
    | true =>
      have a1 : ¬ plt b a = true := by simp [h1]
      have a2 : ¬ plt c b = true := by simp [h2]
      rw [plt_iff] at a1 a2 h
      omega) (fun a b => by
    rw [ltL_plt]
    cases h1 : plt b a with
    | false => rfl
    | true => rw [plt_asym h1]; rfl) l
  unfold srt
  refine h.imp fun {a b} hab => ?_
  rw [ltL_plt] at hab
  simpa using hab
theorem puts_srt (l : List P2) : ddTo (srt (lnk l)) (srt (lnk l)).length = puts l := ddTo_puts l _ (srt_sorted _) (srt_mem _)

theorem holds_of {w : World} {g : Nat} {l : List P2} (h : RowP w g l) : HoldsK pc 2 w g 0 l.toArray := fun j hj => by
  rw [size_flatK] at hj
  have hj' : j < l.length * 2 := by simpa using hj
  rw [get_flatK _ _ _ _ hj]
  obtain ⟨p, hp⟩ : ∃ p, l[j / 2]? = some p := ⟨_, List.getElem?_eq_getElem (by omega)⟩
  have e : l.toArray[j / 2]! = p := by
    have h2 : j / 2 < l.toArray.size := by simp; omega
    rw [getElem!_pos l.toArray (j / 2) h2]
    obtain ⟨_, e⟩ := List.getElem?_eq_some_iff.1 hp
    simpa using e
  rw [e]
  obtain ⟨c0, c1⟩ := h.at_ _ p hp
  refine ⟨?_, by rw [Nat.zero_add]; exact h.fz j hj'⟩
  rw [Nat.zero_add]
  rcases Nat.lt_or_ge (j % 2) 1 with h1 | h1
  · rw [show j % 2 = 0 by omega]
    rw [show j / 2 * 2 = j by omega] at c0
    rw [c0]; rfl
  · rw [show j % 2 = 1 by omega]
    rw [show j / 2 * 2 + 1 = j by omega] at c1
    rw [c1]; rfl
theorem row_of {w : World} {g : Nat} {l : List P2} (h : HoldsK pc 2 w g 0 l.toArray) (hg : g < w.heap.size) : RowP w g l := by
  refine ⟨hg, fun i p hi => ?_, fun j hj => ?_⟩
  · have hil : i < l.length := (List.getElem?_eq_some_iff.1 hi).1
    have e : l.toArray[i]! = p := by
      have h2 : i < l.toArray.size := by simpa using hil
      rw [getElem!_pos l.toArray i h2]
      obtain ⟨_, e⟩ := List.getElem?_eq_some_iff.1 hi
      simpa using e
    have c0 := (h.cell (i := i) (c := 0) (by simpa using hil) (by omega)).1
    have c1 := (h.cell (i := i) (c := 1) (by simpa using hil) (by omega)).1
    rw [e, Nat.zero_add] at c0 c1
    exact ⟨c0, c1⟩
  · have hil : j / 2 < l.toArray.size := by simp; omega
    have := (h.cell (i := j / 2) (c := j % 2) hil (by omega)).2
    rwa [Nat.zero_add, show j / 2 * 2 + j % 2 = j by omega] at this
theorem OwnP.row {T : TypeId} {w : World} {base g c : Nat} {l : List P2} (h : OwnP T w base (.slice (some ⟨g, 0, none⟩) l.length c) l) : RowP w g l := by
  refine ⟨?_, fun i p hi => h.cells i p hi, fun j hj => World.ownsRow.frozenAt (show w.ownsRow base T 2 (.slice (some ⟨g, 0, none⟩) l.length c) l.length (pcells l) from h) j⟩
  rcases h.slice with ⟨h0, _⟩ | ⟨g', c', hv, _, hg, _⟩
  · cases h0
  · simp only [Value.slice.injEq, Option.some.injEq, Addr.mk.injEq, and_true] at hv
    obtain ⟨rfl, _, _⟩ := hv
    exact hg
theorem sort_below {N : Nat} {W w : World} (h : Below N W w) {g : Nat} (hN : N ≤ g) (hg : g < w.heap.size) (n : Nat) (d : Array P2) (os : Array Obj) : Below N W (sortWorldK pc 2 w g 0 n d os) := by
  have hs : (putRowK pc 2 (Sort.ahead w n) g 0 d).heap.size = w.heap.size := by
    show (w.heap.modify g _).size = _; simp
  have h1 : Below N W (putRowK pc 2 (Sort.ahead w n) g 0 d) := by
    refine h.trans ⟨rfl, rfl, rfl, by rw [hs]; exact Nat.le_refl _, fun k hk => ?_⟩
    show (w.heap.modify g _)[k]? = w.heap[k]?
    rw [Array.getElem?_modify, if_neg (by omega)]
  exact grow_below h1 (by rw [hs]; omega) 0 os
theorem sort_row {w : World} {g : Nat} {l m : List P2} (h : RowP w g l) (hs : m.length = l.length) (n : Nat) (os : Array Obj) : RowP (sortWorldK pc 2 w g 0 n m.toArray os) g m := by
  have hz : (putRowK pc 2 (Sort.ahead w n) g 0 m.toArray).heap.size = w.heap.size := by
    show (w.heap.modify g _).size = _; simp
  refine row_of (holdsK_grow pc 2 _ os g 0 _ (by rw [hz]; exact h.lt) (holdsK_putRowK pc 2 _ g 0 l.toArray _ (holdsK_ahead pc 2 w n g 0 _ (holds_of h)) (by simpa using hs))) ?_
  show g < ((putRowK pc 2 (Sort.ahead w n) g 0 m.toArray).heap ++ os).size
  have := h.lt
  simp; omega

theorem sort_none (p : Option Addr) (c : Nat) (fv : Value) (w : World) : Calls Try.prog 34 #[.slice p 0 c, fv] w fun e w' => e = .returned (.tuple #[]) ∧ w' = w := AnyF.slices_SortFunc_none Try.sortL p c fv w
theorem sort_some (g c : Nat) (l : List P2) (w : World) (h : RowP w g l) (hn : l.length ≤ 100) :
    Calls Try.prog 34 #[.slice (some ⟨g, 0, none⟩) l.length c, .func (.func 30) #[] #[]] w fun e w' => e = .returned (.tuple #[]) ∧ RowP w' g (srt l) ∧ ∀ N W, N ≤ g → Below N W w → Below N W w' := by
  have hsz : l.toArray.size < 4611686018427387904 := by simp; omega
  have hcon := AnyQ.slices_SortFunc_total Try.sortL 2 Try.isAgg57 Try.sizeOf57 pc (fun _ => rfl) (fun x v hv => onep x v hv) cfL swoL 30 #[] g 0 c l.toArray w
    (enters_of Try.func30 (by kernel_rfl) rfl) (fun m os dk hd x y => lorder_any x y _) (holds_of h) h.lt hsz
    (fun x y h1 h2 => by
      have h1' : ltL x y = false := h1
      have h2' : ltL y x = false := h2
      rw [ltL_plt] at h1' h2'
      exact plt_total h1' h2')
  rw [show l.toArray.size = l.length by simp] at hcon
  refine hcon.mono ?_
  rintro e w' ⟨he, n, os, hw⟩
  have hw2 : w' = sortWorldK pc 2 w g 0 n (srt l).toArray os := hw
  refine ⟨he, by rw [hw2]; exact sort_row h (srt_len l) n os, fun N W hN hB => by rw [hw2]; exact sort_below hB hN h.lt n _ os⟩
end Go.Proofs.Ytggoajpemffbiaa
