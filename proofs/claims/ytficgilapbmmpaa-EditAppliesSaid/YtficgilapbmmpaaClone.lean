/-
  slices.Clone of a row of edits.
-/
import Derived.Test.YtficgilapbmmpaaStableC
import Derived.Test.YtficgilapbmmpaaBack
import Derived.Lib.SliceRun
import Derived.Laws.OwnMore
namespace Go.Proofs.Ytficgilapbmmpaa
open Go.RowKit Go.Sem
set_option linter.unusedVariables false

theorem edCells_of : ∀ (l : List Ed) (j : Nat) (u : Value), (edCells l)[j]? = some u → ∃ i, ∃ h : i < l.length, (j = i * 3 ∧ u = .int .i64 l[i].a) ∨ (j = i * 3 + 1 ∧ u = .int .i64 l[i].e) ∨ (j = i * 3 + 2 ∧ u = .string l[i].t)
  | [], j, u, h => by simp [edCells] at h
  | x :: r, 0, u, h => ⟨0, by simp, .inl ⟨rfl, by simp [edCells] at h; exact h.symm⟩⟩
  | x :: r, 1, u, h => ⟨0, by simp, .inr (.inl ⟨rfl, by simp [edCells] at h; exact h.symm⟩)⟩
  | x :: r, 2, u, h => ⟨0, by simp, .inr (.inr ⟨rfl, by simp [edCells] at h; exact h.symm⟩)⟩
  | x :: r, j + 3, u, h => by
    simp only [edCells, List.getElem?_cons_succ] at h
    obtain ⟨i, hi, hh⟩ := edCells_of r j u h
    refine ⟨i + 1, by simp; omega, ?_⟩
    simp only [List.getElem_cons_succ]
    rcases hh with ⟨h1, h2⟩ | ⟨h1, h2⟩ | ⟨h1, h2⟩
    · exact .inl ⟨by omega, h2⟩
    · exact .inr (.inl ⟨by omega, h2⟩)
    · exact .inr (.inr ⟨by omega, h2⟩)
theorem edCells_one (l : List Ed) : ∀ u ∈ edCells l, u.oneCell' = true := by
  induction l with
  | nil => intro u h; simp [edCells] at h
  | cons x r ih =>
    intro u h
    simp only [edCells, List.mem_cons] at h
    rcases h with rfl | rfl | rfl | h
    · rfl
    · rfl
    · rfl
    · exact ih u h
theorem news_of (w : World) (b off : Nat) (l : List Ed) (h : EditsAt w b off l) : ∀ j u, (edCells l)[j]? = some u → w.cell? ((⟨b, off, none⟩ : Addr).add j) = some u := by
  intro j u hj
  obtain ⟨i, hi, hh⟩ := edCells_of l j u hj
  obtain ⟨e0, e1, e2⟩ := h i hi
  have ha : ((⟨b, off, none⟩ : Addr).add j) = ⟨b, off + j, none⟩ := by unfold Addr.add; split <;> simp_all
  rw [ha]
  rcases hh with ⟨rfl, rfl⟩ | ⟨rfl, rfl⟩ | ⟨rfl, rfl⟩
  · exact e0
  · exact e1
  · exact e2
theorem arr_of_row {w : World} {base g n cap : Nat} {l : List Ed} (h : w.ownsRow base 55 3 (.slice (some ⟨g, 0, none⟩) n cap) n (edCells l)) (hn : n = l.length) : Arr w g l ∧ n ≤ cap ∧ base ≤ g := by
  subst hn
  have hin := editsIn_of_row h
  rcases h.2 with ⟨h0, h1⟩ | ⟨g', c, cur, hv, hg, hh, hle, hm, hsz, ht⟩
  · simp at h0
  · simp only [Value.slice.injEq] at hv
    obtain ⟨hv, hn, rfl⟩ := hv
    simp only [Option.some.injEq, Addr.mk.injEq, and_true] at hv
    subst hv
    refine ⟨⟨cur, hh, ?_, ?_⟩, hle, hg⟩
    · rw [hsz]; omega
    · rcases hin.2 with h0 | ⟨b', off', hp, _, _, hat⟩
      · intro i hi; omega
      · simp only [Option.some.injEq, Addr.mk.injEq, and_true] at hp
        obtain ⟨rfl, rfl⟩ := hp
        exact hat

theorem clone_some (l : List Ed) (b off cap : Nat) (w : World) (hc : EditsAt w b off l) (hb : b < w.heap.size) (hcap : l.length ≤ cap) (hm : l.length ≤ 60) (hl : 0 < l.length) :
    Calls Try.prog 30 #[.slice (some ⟨b, off, none⟩) l.length cap] w fun e w' => ∃ g c, e = .returned (.slice (some ⟨g, 0, none⟩) l.length c) ∧ l.length ≤ c ∧ w.heap.size ≤ g ∧ Arr w' g l ∧ Below w.heap.size w w' := by
  obtain ⟨i0, hi0, hy0, hy1, hy2⟩ := info_parts info55
  have HC := Lib.hid hc
  clear hc
  have q22 : ∀ (w : World) (a : Option Addr) (n c n' c' : Nat), (binOp .eql 22 (.slice a n c) (.slice none n' c')).run Try.prog w = .ok (.bool a.isNone) w := fun w a n c n' c' => Lib.run_eql_slice_nil w _ _ a n c n' c' Try.underlying22
  go_enter Try.func30, Try.ntmps30
  go_wp2_with (at_builtin; refine wpList_append_lies _ rfl _ _ 22 rfl w.heap.size 55 i0 (.agg #[.int .i64 0, .int .i64 0, .string ByteArray.empty]) 3 32 Try.underlying22 hi0 hy0 hy1 hy2 rfl (by omega) _ 0 [] rfl (World.ownsRow_made w #[] 0 (Nat.le_refl _) (Nat.zero_le _) rfl) ⟨b, off, none⟩ l.length cap (edCells l) rfl (edCells_length l) (fun j u hj => Lib.cell?_alloc_some _ (news_of w b off l HC.out j u hj)) (edCells_one l) hl (by unfold maxLen; omega) (by omega) (by simp) (w.heap.size + 1) (by simp) ?_)
  intro g c w1 hown hgrow hat hlt
  obtain ⟨harr, hle, hbase⟩ := arr_of_row hown rfl
  have hbl : Below w.heap.size w w1 := ((Below.refl _ w).alloc (Nat.le_refl _) _).grown hgrow (by simp) (by intro k hk; simp [Value.ownBlock] at hk; omega)
  have H1 := Lib.hid harr
  have H2 := Lib.hid hbl
  clear hown hgrow hat harr hbl
  go_wp2_with fail
  go_ret
  exact ⟨g, c, by first | rfl | simp, hle, hbase, H1.out, H2.out⟩
theorem clone_nil (n c : Nat) (w : World) :
    Calls Try.prog 30 #[.slice none n c] w fun e w' => e = .returned (.slice none 0 0) ∧ w = w' := by
  have q22 : ∀ (w : World) (a : Option Addr) (n c n' c' : Nat), (binOp .eql 22 (.slice a n c) (.slice none n' c')).run Try.prog w = .ok (.bool a.isNone) w := fun w a n c n' c' => Lib.run_eql_slice_nil w _ _ a n c n' c' Try.underlying22
  go_enter Try.func30, Try.ntmps30
  go_wp2
  go_ret
  exact ⟨rfl, rfl⟩
end Go.Proofs.Ytficgilapbmmpaa
