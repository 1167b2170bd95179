/-
  What the walk of TreeMakes wants: parts lie, names are few, what is equal reads as equal.
-/
import Derived.Test.YtcijjeflojaocaaRefKids
import Derived.Test.YtcijjeflojaocaaTreeNil
namespace Go.Proofs.Ytcijjeflojaocaa
open Go.RowKit
set_option linter.unusedVariables false
set_option linter.unusedSimpArgs false

theorem sameI_refl (l : List Int) : sameI l l = true := by simp [sameI]
theorem own_in {w : World} {base : Nat} {v : Value} {L : List Nat} (h : OwnN w base v L) : ∃ p c, v = .slice p L.length c ∧ In mkI w p L.length c (L.map fun x : Nat => (x : Int)) := by
  refine in_of_row (mk := mkI) (base := base) (E := 3) (l := L.map fun x : Nat => (x : Int)) ?_ (by simp)
  have e : (L.map fun x : Nat => (x : Int)).map mkI = L.map mkN := by simp [Function.comp_def]
  rw [e]; exact h
theorem lies_flats_of {w : World} {ks : List Br} (ih : ∀ b ∈ ks, b.Lies w → ∀ up deep next stop n e, e ∈ Br.flat up deep next stop n b → e.b.Lies w) (up : Nat) (deep : Int) (stop m : Nat) (h : ∀ b ∈ ks, b.Lies w) : ∀ e ∈ flats up deep stop m ks, e.b.Lies w := by
  induction ks generalizing m with
  | nil => intro e he; simp [flats] at he
  | cons x r ih' =>
    intro e he
    simp only [flats] at he
    rcases List.mem_append.1 he with he | he
    · exact ih x (by simp) (h x (by simp)) _ _ _ _ _ e he
    · exact ih' (fun b hb => ih b (by simp [hb])) _ (fun b hb => h b (by simp [hb])) e he
theorem lies_flat {w : World} (b : Br) : b.Lies w → ∀ up deep next stop n e, e ∈ Br.flat up deep next stop n b → e.b.Lies w := by
  induction b using Br.ind with
  | hP h ks ih =>
    intro hl up deep next stop n e he
    have hl2 := ((lies_iff _ _).1 hl).2.2
    simp only [Br.ks] at hl2
    simp only [Br.flat] at he
    rcases List.mem_cons.1 he with rfl | he
    · exact hl
    · exact lies_flats_of ih _ _ _ _ hl2 e he
theorem fits_flats_of {ks : List Br} (ih : ∀ b ∈ ks, b.Fits → ∀ up deep next stop n e, e ∈ Br.flat up deep next stop n b → e.b.Fits) (up : Nat) (deep : Int) (stop m : Nat) (h : ∀ b ∈ ks, b.Fits) : ∀ e ∈ flats up deep stop m ks, e.b.Fits := by
  induction ks generalizing m with
  | nil => intro e he; simp [flats] at he
  | cons x r ih' =>
    intro e he
    simp only [flats] at he
    rcases List.mem_append.1 he with he | he
    · exact ih x (by simp) (h x (by simp)) _ _ _ _ _ e he
    · exact ih' (fun b hb => ih b (by simp [hb])) _ (fun b hb => h b (by simp [hb])) e he
theorem fits_flat (b : Br) : b.Fits → ∀ up deep next stop n e, e ∈ Br.flat up deep next stop n b → e.b.Fits := by
  induction b using Br.ind with
  | hP h ks ih =>
    intro hl up deep next stop n e he
    have hl2 := hl
    simp only [Br.Fits, fitsAll_iff] at hl2
    simp only [Br.flat] at he
    rcases List.mem_cons.1 he with rfl | he
    · exact hl
    · exact fits_flats_of ih _ _ _ _ hl2.2 e he
theorem names_all {ks : List Br} {b : Br} (h : b ∈ ks) : b.names ≤ namesAll ks := by
  induction ks with
  | nil => cases h
  | cons x r ih =>
    simp only [namesAll]
    rcases List.mem_cons.1 h with rfl | h
    · omega
    · have := ih h; omega
theorem names_flats_of {ks : List Br} {M : Nat} (ih : ∀ b ∈ ks, b.names ≤ M → ∀ up deep next stop n e, e ∈ Br.flat up deep next stop n b → min e.b.h.nn 1000 ≤ M) (hM : namesAll ks ≤ M) (up : Nat) (deep : Int) (stop m : Nat) : ∀ e ∈ flats up deep stop m ks, min e.b.h.nn 1000 ≤ M := by
  induction ks generalizing m with
  | nil => intro e he; simp [flats] at he
  | cons x r ih' =>
    intro e he
    simp only [namesAll] at hM
    simp only [flats] at he
    rcases List.mem_append.1 he with he | he
    · exact ih x (by simp) (by omega) _ _ _ _ _ e he
    · exact ih' (fun b hb => ih b (by simp [hb])) (by omega) _ e he
theorem names_flat_M (M : Nat) (b : Br) : b.names ≤ M → ∀ up deep next stop n e, e ∈ Br.flat up deep next stop n b → min e.b.h.nn 1000 ≤ M := by
  induction b using Br.ind with
  | hP h ks ih =>
    intro hM up deep next stop n e he
    simp only [Br.names] at hM
    simp only [Br.flat] at he
    rcases List.mem_cons.1 he with rfl | he
    · simp only [Br.h]; omega
    · exact names_flats_of ih (by omega) _ _ _ _ e he
theorem names_le_all (b : Br) : ∀ up deep next stop n e, e ∈ Br.flat up deep next stop n b → min e.b.h.nn 1000 ≤ b.names := names_flat_M b.names b (Nat.le_refl _)
theorem climb_knots {b : Br} {x : Int} {ks : List Nat} (hc : Climb (fun i => b.all[i]?.map Ent.up) x ks) : Climb (fun i => b.knots[i]?.map Kn.up) x ks := by
  induction ks generalizing x with
  | nil => exact hc
  | cons k r ih =>
    obtain ⟨h1, y, hy, h2⟩ := hc
    refine ⟨h1, y, ?_, ih h2⟩
    show b.knots[k]?.map Kn.up = some y
    rw [knots_at]
    have hy' : b.all[k]?.map Ent.up = some y := hy
    rw [← hy']
    cases b.all[k]? <;> rfl
theorem ints_refl (p : Option Addr) (n c : Nat) (l : List Int) (p' : Option Addr) (c' : Nat) (w : World) (h : In mkI w p n c l) (h' : In mkI w p' n c' l) (hn : n ≤ 1000000) :
    Calls Try.prog 23 #[.slice p n c, .slice p' n c'] w fun e w' => e = .returned (.bool true) ∧ Below w.heap.size w w' := by
  have := ints_any p n c l p' n c' l w h h' hn
  rw [sameI_refl] at this
  exact this
theorem ownN_of {w : World} {base n : Nat} {v : Value} {L : List Nat} (h : w.ownsRow base 3 1 v n (L.map mkN)) (hn : n = L.length) : OwnN w base v L := by subst hn; exact h
theorem find_take (L : List Nat) (p : Nat → Bool) (i : Nat) (h : i < L.length) : (L.take (i + 1)).find? p = ((L.take i).find? p).or (bif p L[i] then some L[i] else none) := by
  rw [List.take_succ_eq_append_getElem h, List.find?_append]
  cases hp : p L[i] <;> simp [List.find?, hp]
def cI (m s i : Nat) : Nat := min (i - m) s

end Go.Proofs.Ytcijjeflojaocaa
