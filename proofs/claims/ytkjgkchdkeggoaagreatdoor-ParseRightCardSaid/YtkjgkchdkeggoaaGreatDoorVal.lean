/-
  The reader's value, is, begins, colon.
-/
import Derived.Test.YtkjgkchdkeggoaaGreatDoorHas
namespace Go.Proofs.YtkjgkchdkeggoaaGreatDoor
open Go.RowKit
set_option maxRecDepth 20000
set_option linter.unusedVariables false
set_option linter.unusedSimpArgs false

theorem Ends.base {α : Type} {S : Src} {d : Nat} {w w1 : World} {o : Out α} {R : α → Value → World → Prop} {e : Ending} {w' : World} (h : Ends S d w1 o R e w') (hg : w.grownBy w1 (some S.g)) : Ends S d w o R e w' := by
  rcases h with ⟨x, n, v, h1, h2, h3, h4, h5⟩ | ⟨ch, h1, h2, h3⟩
  · exact Or.inl ⟨x, n, v, h1, h2, h3, h4, grown_trans hg h5⟩
  · exact Or.inr ⟨ch, h1, h2, grown_trans hg h3⟩
theorem Ends.noOut {α : Type} {S : Src} {d : Nat} {w : World} {o : Out α} {R : α → Value → World → Prop} {w' : World} : ¬ Ends S d w o R .outgrown w' := by
  rintro (⟨x, n, v, h1, h2, _⟩ | ⟨ch, h1, h2, _⟩) <;> cases h2
theorem cells_two {w : World} {a b : Int} {t : TypeId} : IntCells (w.alloc (.cells #[.int .i64 a, .int .i64 b] t)) w.heap.size [a, b] := fun i hi => by
  have hb := heap_alloc_new w (.cells #[.int .i64 a, .int .i64 b] t)
  match i, hi with
  | 0, _ => rw [Lib.cell_of_heap hb]; rfl
  | 1, _ => rw [Lib.cell_of_heap hb]; rfl
theorem cells_one {w : World} {a : Int} {t : TypeId} : IntCells (w.alloc (.cells #[.int .i64 a] t)) w.heap.size [a] := fun i hi => by
  have hb := heap_alloc_new w (.cells #[.int .i64 a] t)
  match i, hi with
  | 0, _ => rw [Lib.cell_of_heap hb]; rfl
theorem take1 (S : Src) (n d : Nat) (k : Int) (hk : k ≠ 0) (w : World) (h : Rd w S n d) :
    Calls Tryz.prog 78 #[.pointer (some ⟨S.g, 0, none⟩), .slice (some ⟨w.heap.size, 0, none⟩) 1 1] (w.alloc (.cells #[.int .i64 k] 3)) fun e w' => Ends S d w (S.take [k] n) RN e w' := by
  have hb : Below w.heap.size w (w.alloc (.cells #[.int .i64 k] 3)) := (Below.refl w.heap.size w).alloc (Nat.le_refl _) _
  exact (rtake_any S n d [k] w.heap.size 1 _ (h.step hb) cells_one (by simp) (by simp) (by simp) (by simpa using fun e : 0 = k => hk e.symm)).mono fun e w' he => he.base (grown_below hb _)

theorem rvalue_any (S : Src) (n d : Nat) (w : World) (h : Rd w S n d) :
    Calls Tryz.prog 108 #[.pointer (some ⟨S.g, 0, none⟩)] w fun e w' => Ends S d w (S.value n) RN e w' := by
  have H := Lib.hid (rpass_any S n d ⟨#[111, 112]⟩ w h (by simp))
  clear h
  unfold Src.value
  simp only at H
  cases hi : S.is n [111, 112] <;> rw [hi] at H
  · go_enter Tryz.func108, Tryz.ntmps108
    go_wp2_with fail
    refine H.out.mono ?_
    rintro e w1 ⟨rfl, hr, hg⟩
    have HG := Lib.hid hg
    have HX := Lib.hid (take1 S n d 6 (by decide) w1 hr)
    clear hr hg
    go_wp2_with fail
    refine HX.out.mono ?_
    rintro e w2 (⟨x, m, v, ho, rfl, hv, hr, hg⟩ | ⟨ch, ho, rfl, hg⟩)
    · obtain rfl : v = .int .i64 (x : Int) := hv
      have HE := Lib.hid (And.intro ho (And.intro hr (grown_trans HG.out hg)))
      clear ho hr hg
      go_wp2_with fail
      go_ret
      exact Or.inl ⟨x, m, _, HE.out.1, rfl, rfl, HE.out.2.1, HE.out.2.2⟩
    · exact ⟨rfl, Or.inr ⟨ch, ho, rfl, grown_trans HG.out hg⟩⟩
  · go_enter Tryz.func108, Tryz.ntmps108
    go_wp2_with fail
    refine H.out.mono ?_
    rintro e w1 ⟨rfl, hr, hg⟩
    have HG := Lib.hid hg
    have HX := Lib.hid (take1 S (n + 1) d 9 (by decide) w1 hr)
    clear hr hg
    go_wp2_with fail
    refine HX.out.mono ?_
    rintro e w2 (⟨x, m, v, ho, rfl, hv, hr, hg⟩ | ⟨ch, ho, rfl, hg⟩)
    · obtain rfl : v = .int .i64 (x : Int) := hv
      have HE := Lib.hid (And.intro ho (And.intro hr (grown_trans HG.out hg)))
      clear ho hr hg
      go_wp2_with fail
      go_ret
      exact Or.inl ⟨x, m, _, HE.out.1, rfl, rfl, HE.out.2.1, HE.out.2.2⟩
    · exact ⟨rfl, Or.inr ⟨ch, ho, rfl, grown_trans HG.out hg⟩⟩

/-- Is token n one of these? -/
def isAny (S : Src) (n : Nat) (l : List ByteArray) : Bool := hasT l (S.tx n)
theorem isAny_eq (S : Src) (n : Nat) (l : List ByteArray) : isAny S n l = l.any fun t => S.is n t.data.toList := by
  unfold isAny hasT Src.is
  congr 1
  funext x
  rw [Lib.toList_data, Lib.toList_data]
theorem ris_any (S : Src) (n d : Nat) (l : List ByteArray) (b c : Nat) (w : World) (h : Rd w S n d) (hat : TxtCells w b l) (hb : b < w.heap.size) (hc : l.length ≤ c) (hm : l.length ≤ 1000) :
    Calls Tryz.prog 94 #[.pointer (some ⟨S.g, 0, none⟩), .slice (some ⟨b, 0, none⟩) l.length c] w fun e w' => e = .returned (.bool (isAny S n l)) ∧ Below w.heap.size w w' := by
  have H := Lib.hid (rtext_any S n d n w h h.here)
  have HI := Lib.hid (fun w' (hw : Below w.heap.size w w') => hasT_any l (S.tx n) b c w' (fun i hi => (hw.cell (p := ⟨b, _, none⟩) hb).trans (hat i hi)) hc hm)
  have c2 := h.c2
  unfold isAny
  clear hat h
  generalize l.length = nl at *
  generalize hasT l (S.tx n) = q at *
  generalize S.tx n = x at *
  go_enter Tryz.func94, Tryz.ntmps94
  go_wp2_with fail
  refine H.out.mono ?_
  rintro e w1 ⟨rfl, hb1⟩
  have HB := Lib.hid hb1
  clear hb1
  go_wp2_with fail
  refine (HI.out _ HB.out).mono ?_
  rintro e w2 ⟨rfl, rfl⟩
  go_wp2_with fail
  go_ret
  exact ⟨rfl, HB.out⟩

set_option maxHeartbeats 1000000 in
theorem rcolon_any (S : Src) (n d : Nat) (w : World) (h : Rd w S n d) :
    Calls Tryz.prog 124 #[.pointer (some ⟨S.g, 0, none⟩)] w fun e w' => e = .returned (.int .i64 ((S.colon n).1 : Int)) ∧ Rd w' S (S.colon n).2 d ∧ w.grownBy w' (some S.g) := by
  have H := Lib.hid (rpass_any S n d ⟨#[58]⟩ w h (by simp))
  clear h
  unfold Src.colon
  simp only at H
  cases hi : S.is n [58] <;> rw [hi] at H
  · cases hj : S.is n [58, 62]
    all_goals
      go_enter Tryz.func124, Tryz.ntmps124
      go_wp2_with fail
      refine H.out.mono ?_
      rintro e w1 ⟨rfl, hr, hg⟩
      have HG := Lib.hid hg
      have HX := Lib.hid (rpass_any S n d ⟨#[58, 62]⟩ w1 hr (by simp))
      clear hr hg
      simp only at HX
      rw [hj] at HX
      go_wp2_with fail
      refine HX.out.mono ?_
      rintro e w2 ⟨rfl, hr, hg⟩
      have HE := Lib.hid (And.intro hr (grown_trans HG.out hg))
      clear hr hg
      go_wp2_with fail
      go_ret
      exact ⟨rfl, HE.out⟩
  · go_enter Tryz.func124, Tryz.ntmps124
    go_wp2_with fail
    refine H.out.mono ?_
    rintro e w1 ⟨rfl, hr, hg⟩
    have HE := Lib.hid (And.intro hr hg)
    clear hr hg
    go_wp2_with fail
    go_ret
    exact ⟨rfl, HE.out⟩
theorem txts_two {w : World} {a b : ByteArray} {t : TypeId} : TxtCells (w.alloc (.cells #[.string a, .string b] t)) w.heap.size [a, b] := fun i hi => by
  have hb := heap_alloc_new w (.cells #[.string a, .string b] t)
  match i, hi with
  | 0, _ => rw [Lib.cell_of_heap hb]; rfl
  | 1, _ => rw [Lib.cell_of_heap hb]; rfl
theorem txts_one {w : World} {a : ByteArray} {t : TypeId} : TxtCells (w.alloc (.cells #[.string a] t)) w.heap.size [a] := fun i hi => by
  have hb := heap_alloc_new w (.cells #[.string a] t)
  match i, hi with
  | 0, _ => rw [Lib.cell_of_heap hb]; rfl
set_option maxHeartbeats 2000000 in
theorem rbegins_any (S : Src) (n d : Nat) (l : List ByteArray) (b c : Nat) (w : World) (h : Rd w S n d) (hat : TxtCells w b l) (hb : b < w.heap.size) (hc : l.length ≤ c) (hm : l.length ≤ 1000) :
    Calls Tryz.prog 71 #[.pointer (some ⟨S.g, 0, none⟩), .slice (some ⟨b, 0, none⟩) l.length c] w fun e w' => e = .returned (.bool (S.begins (l.map fun t => t.data.toList) n)) ∧ Below w.heap.size w w' := by
  have hbe : S.begins (l.map fun t => t.data.toList) n = (S.beginsK n || (isAny S n [⟨#[111, 112]⟩, ⟨#[40]⟩] || isAny S n l)) := by
    rw [isAny_eq, isAny_eq]
    unfold Src.begins
    simp only [List.any_map, Function.comp_def, List.any_cons, List.any_nil, Bool.or_false, Bool.or_assoc]
  have H := Lib.hid (rkind_any S n d w h)
  have HR := Lib.hid h
  have HI2 := Lib.hid (fun w' (hw : Below w.heap.size w w') => ris_any S n d [⟨#[111, 112]⟩, ⟨#[40]⟩] w'.heap.size 2 (w'.alloc (.cells #[.string ⟨#[111, 112]⟩, .string ⟨#[40]⟩] 9)) ((h.step hw).step ((Below.refl w'.heap.size w').alloc (Nat.le_refl _) _)) txts_two (by simp) (by simp) (by simp))
  have HI := Lib.hid (fun w' (hw : Below w.heap.size w w') => ris_any S n d l b c w' (h.step hw) (fun i hi => (hw.cell (p := ⟨b, _, none⟩) hb).trans (hat i hi)) (Nat.lt_of_lt_of_le hb hw.size) hc hm)
  rw [hbe]
  unfold Src.beginsK
  clear hat h hbe
  simp only [List.length_cons, List.length_nil] at HI2
  generalize l.length = nl at *
  generalize isAny S n l = q2 at *
  generalize isAny S n [⟨#[111, 112]⟩, ⟨#[40]⟩] = q1 at *
  generalize S.kd n = kn at *
  cases h4 : (kn == 4) <;> cases h5 : (kn == 5) <;> cases h6 : (kn == 6) <;> cases h7 : (kn == 7)
  case false.false.false.false =>
    cases q1
    · go_enter Tryz.func71, Tryz.ntmps71
      go_wp2_with fail
      refine H.out.mono ?_
      rintro e w1 ⟨rfl, hb1⟩
      have HB := Lib.hid hb1
      clear hb1
      go_wp2_with fail
      refine (HI2.out _ HB.out).mono ?_
      rintro e w2 ⟨rfl, hb2⟩
      have HB2 : Hid (Below w.heap.size w w2) := Lib.hid ((HB.out.alloc HB.out.size _).trans (hb2.mono (by have := HB.out.size; simp; omega)))
      clear hb2
      go_wp2_with fail
      refine (HI.out _ HB2.out).mono ?_
      rintro e w3 ⟨rfl, hb3⟩
      have HB3 := Lib.hid (HB2.out.trans (hb3.mono HB2.out.size))
      clear hb3
      go_wp2_with fail
      go_ret
      exact ⟨by simp, HB3.out⟩
    · go_enter Tryz.func71, Tryz.ntmps71
      go_wp2_with fail
      refine H.out.mono ?_
      rintro e w1 ⟨rfl, hb1⟩
      have HB := Lib.hid hb1
      clear hb1
      go_wp2_with fail
      refine (HI2.out _ HB.out).mono ?_
      rintro e w2 ⟨rfl, hb2⟩
      have HB2 : Hid (Below w.heap.size w w2) := Lib.hid ((HB.out.alloc HB.out.size _).trans (hb2.mono (by have := HB.out.size; simp; omega)))
      clear hb2
      go_wp2_with fail
      go_ret
      exact ⟨by simp, HB2.out⟩
  all_goals
    clear HI HI2
    go_enter Tryz.func71, Tryz.ntmps71
    go_wp2_with fail
    refine H.out.mono ?_
    rintro e w1 ⟨rfl, hb1⟩
    have HB := Lib.hid hb1
    clear hb1
    go_wp2_with fail
    go_ret
    exact ⟨by simp, HB.out⟩
end Go.Proofs.YtkjgkchdkeggoaaGreatDoor
