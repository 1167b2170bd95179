/-
  Which key is the first that stands ahead of it, too (Twice), walked.
-/
import Derived.Test.YtpgmlagkpigdjaaTwc
import Derived.Deep.Cut
namespace Go.Proofs.Ytpgmlagkpigdjaa
open Go.RowKit
set_option maxRecDepth 20000
set_option linter.unusedVariables false
set_option linter.unusedSimpArgs false

/-- A row of keys. -/
def KS (w : World) (q : Option Addr) (n c : Nat) (ks : List Ky) : Prop := n = ks.length ∧ (n = 0 ∨ ∃ g, q = at0 g ∧ n ≤ c ∧ g < w.heap.size ∧ ∀ i k, ks[i]? = some k → KyAt w g i k)
theorem OwnK.ks {w : World} {base : Nat} {v : Value} {l : List Ky} (h : OwnK w base v l) : ∃ q n c, v = .slice q n c ∧ KS w q n c l := by
  rcases h.slice with ⟨rfl, rfl⟩ | ⟨g, c, rfl, hb, hg, hc⟩
  · exact ⟨none, 0, 0, rfl, rfl, .inl rfl⟩
  · exact ⟨some ⟨g, 0, none⟩, _, c, rfl, rfl, .inr ⟨g, rfl, hc, hg, fun i k hi => h.at_ i k hi⟩⟩
theorem KyAt.step {w w1 : World} {g i : Nat} {k : Ky} (h : KyAt w g i k) (hg : g < w.heap.size) (hw : Below w.heap.size w w1) : KyAt w1 g i k :=
  ⟨(hw.cell (p := ⟨g, _, none⟩) hg).trans h.1, (hw.cell (p := ⟨g, _, none⟩) hg).trans h.2⟩
theorem KS.step {w w1 : World} {q : Option Addr} {n c : Nat} {ks : List Ky} (h : KS w q n c ks) (hw : Below w.heap.size w w1) : KS w1 q n c ks := by
  obtain ⟨hn, h0 | ⟨g, hq, hc, hg, hat⟩⟩ := h
  · exact ⟨hn, .inl h0⟩
  · exact ⟨hn, .inr ⟨g, hq, hc, Nat.lt_of_lt_of_le hg hw.size, fun i k hi => (hat i k hi).step hg hw⟩⟩
/-- No key of the first k stands ahead of itself. -/
def Once (l : List Ky) (k : Nat) : Prop := ∀ j key, j < k → l[j]? = some key → key ∉ l.take j
/-- The first key that stands ahead of it, too. -/
def TwAt (l : List Ky) : Option Nat → Prop
  | some i => i < l.length ∧ (∃ key, l[i]? = some key ∧ key ∈ l.take i) ∧ Once l i
  | none => Once l l.length
theorem once_next {l : List Ky} {k : Nat} {key : Ky} (h : Once l k) (hk : l[k]? = some key) (hn : key ∉ l.take k) : Once l (k + 1) := fun j key' hj hj' => by
  rcases Nat.lt_or_ge j k with h1 | h1
  · exact h j key' h1 hj'
  · have : j = k := by omega
    subst this
    rw [hk] at hj'
    cases hj'
    exact hn
def hasK (l : List Ky) (key : Ky) : Bool := l.any (fun x => decide (x = key))
theorem hasK_iff (l : List Ky) (key : Ky) : hasK l key = true ↔ key ∈ l := by simp [hasK]
def Cnt (l : List Ky) (k : Nat) (m : List (Ky × Value)) : Prop := ∀ key, lkm m key = if hasK (l.take k) key = true then some (Value.int .i64 1) else none
theorem cnt_next {l : List Ky} {k : Nat} {key : Ky} {m : List (Ky × Value)} (h : Cnt l k m) (hk : l[k]? = some key) (hn : key ∉ l.take k) : Cnt l (k + 1) (upm m key (.int .i64 1)) := fun x => by
  rw [lkm_up, h x, List.take_add_one, hk]
  by_cases hx : key = x
  · subst hx; simp [hasK]
  · rw [if_neg hx]; simp only [hasK, Option.toList_some, List.any_append, List.any_cons, List.any_nil, hx, decide_false, Bool.or_false]; rfl

set_option maxHeartbeats 8000000 in
theorem twice_any (w : World) (q : Option Addr) (n c : Nat) (ks : List Ky) (h : KS w q n c ks) (hn : n ≤ 900000) :
    Calls Try.prog 18 #[.slice q n c] w fun e w' => ∃ o, TwAt ks o ∧ e = .returned (.tuple #[.int .i64 ((o.getD 0 : Nat) : Int), .bool o.isSome]) ∧ Below w.heap.size w w' := by
  have hmm := @run_makeMap Try.prog
  have HK := Lib.hid h
  obtain ⟨hnl, _⟩ := h
  have HNL := Lib.hid hnl
  clear hnl
  go_enter Try.func18, Try.ntmps18
  go_wp2_with fail
  go_loopw [10] (fun i wr => ∃ (k : Nat) (m : List (Ky × Value)), k ≤ n ∧ i = .int .i64 k ∧ Hid (MapV keyV wr w.heap.size m) ∧ Hid (Cnt ks k m) ∧ Hid (Once ks k) ∧ Hid (Below w.heap.size w wr)) (fun i _ => n - (intOf i).toNat)
  case atStart => exact ⟨0, [], by omega, rfl, Lib.hid (MapV.made w), Lib.hid (fun key => by simp [lkm, hasK]), Lib.hid (fun j key hj => by omega), Lib.hid ((Below.refl _ _).alloc (Nat.le_refl _) _)⟩
  case round =>
    obtain ⟨k, m, hk, rfl, HM, HC, HO, HB⟩ := hrel
    by_cases hlt : k < n
    · obtain ⟨hn1, h0 | ⟨gb, rfl, hcb, hgb, hat⟩⟩ := HK.out
      · omega
      obtain ⟨key, hkey⟩ : ∃ key, ks[k]? = some key := ⟨_, List.getElem?_eq_getElem (by omega)⟩
      obtain ⟨v0, v1⟩ := (hat k key hkey).step hgb HB.out
      have hgb2 : gb < wr.heap.size := Nat.lt_of_lt_of_le hgb HB.out.size
      have r1 : (0 : Int) ≤ (k : Int) := by omega
      have r2 : (k : Int) < (n : Int) := by omega
      have hbz := HB.out.size
      have hlw := HM.out.lt
      obtain ⟨Wd, hWd⟩ : ∃ Wd, Wd = (wr.alloc (.cells #[.int .i64 key.1, .string key.2] 31)).drew := ⟨_, rfl⟩
      have hWdS : Below wr.heap.size wr Wd := by rw [hWd]; exact ((Below.refl _ _).alloc (Nat.le_refl _) _).drew
      have hWdB : Below w.heap.size w Wd := HB.out.trans (hWdS.mono hbz)
      have hmd := HM.out.step hWdS
      have hWdb : Wd.heap[wr.heap.size]? = some (.cells #[.int .i64 key.1, .string key.2] 31 (0, 0)) := by rw [hWd]; exact heap_new wr _
      have hWds : Wd.heap.size = wr.heap.size + 1 := by rw [hWd]; show (wr.alloc _).heap.size = _; simp
      have x0 := (cellH hWdb 0).trans rfl
      have x1 := (cellH hWdb 1).trans rfl
      have HKY := Lib.hid hkey
      clear hat hkey hn1 hWdS
      simp only [at0]
      by_cases hdup : key ∈ ks.take k
      · have hlk : lkm m key = some (.int .i64 1) := by rw [HC.out key, if_pos ((hasK_iff _ _).2 hdup)]
        obtain ⟨st, W1, W2, e2, hm1, e4, hm2⟩ := entry_run key31_ok Try.underlying75 Wd w.heap.size m hmd (fun _ _ => trivial) key trivial (zero3 Wd) (.int .i64 2)
        have e1 := look_run key31_ok Try.underlying75 Wd w.heap.size m hmd (fun _ _ => trivial) key trivial (zero3 Wd) false
        have e3 := look_run key31_ok Try.underlying75 W1 w.heap.size _ hm1.map (fun _ _ => trivial) key trivial (zero3 W1) false
        have e5 := look_run key31_ok Try.underlying75 W2 w.heap.size _ hm2.map (fun _ _ => trivial) key trivial (zero3 W2) false
        rw [lkm_up, if_pos rfl] at e3 e5
        rw [hlk] at e1 e2 e3
        simp only [Bool.false_eq_true, if_false, Option.getD, keyV] at e1 e2 e3 e4 e5
        have hb1 : W1.heap[wr.heap.size]? = some (.cells #[.int .i64 key.1, .string key.2] 31 (0, 0)) := (hm1.kp.blk _ (by rw [hWds]; omega) (by omega)).trans hWdb
        have hb2 : W2.heap[wr.heap.size]? = some (.cells #[.int .i64 key.1, .string key.2] 31 (0, 0)) := (hm2.kp.blk _ (by rw [hWds]; omega) (by omega)).trans hWdb
        have y0 := (cellH hb1 0).trans rfl
        have y1 := (cellH hb1 1).trans rfl
        have z0 := (cellH hb2 0).trans rfl
        have z1 := (cellH hb2 1).trans rfl
        have HM2 := Lib.hid hm2
        have HBW := Lib.hid (hm2.bel w.heap.size w (Nat.le_refl _) hWdB)
        clear hb1 hb2 hm1 hm2 hmd hWdb hWdB hWds
        have HT : Hid (TwAt ks (some k)) := Lib.hid ⟨by have := HNL.out; omega, ⟨key, HKY.out, hdup⟩, HO.out⟩
        clear hlk hdup
        subst hWd
        go_wp2_with fail
        go_region
        go_wp2_with fail
        try simp only [Exit.inBlock, Exit.then]
        refine bodyPost_ret (by simp [results, Try.results18, go_sem, Result.andThen]; try rfl) rfl ?_
        exact ⟨some k, HT.out, rfl, HBW.out⟩
      · have hlk : lkm m key = none := by rw [HC.out key, if_neg (fun e => hdup ((hasK_iff _ _).1 e))]
        obtain ⟨st, W1, W2, e2, hm1, e4, hm2⟩ := entry_run key31_ok Try.underlying75 Wd w.heap.size m hmd (fun _ _ => trivial) key trivial (zero3 Wd) (.int .i64 1)
        have e1 := look_run key31_ok Try.underlying75 Wd w.heap.size m hmd (fun _ _ => trivial) key trivial (zero3 Wd) false
        have e3 := look_run key31_ok Try.underlying75 W1 w.heap.size _ hm1.map (fun _ _ => trivial) key trivial (zero3 W1) false
        have e5 := look_run key31_ok Try.underlying75 W2 w.heap.size _ hm2.map (fun _ _ => trivial) key trivial (zero3 W2) false
        rw [lkm_up, if_pos rfl] at e3 e5
        rw [hlk] at e1 e2 e3
        simp only [Bool.false_eq_true, if_false, Option.getD, keyV] at e1 e2 e3 e4 e5
        have hb1 : W1.heap[wr.heap.size]? = some (.cells #[.int .i64 key.1, .string key.2] 31 (0, 0)) := (hm1.kp.blk _ (by rw [hWds]; omega) (by omega)).trans hWdb
        have hb2 : W2.heap[wr.heap.size]? = some (.cells #[.int .i64 key.1, .string key.2] 31 (0, 0)) := (hm2.kp.blk _ (by rw [hWds]; omega) (by omega)).trans hWdb
        have y0 := (cellH hb1 0).trans rfl
        have y1 := (cellH hb1 1).trans rfl
        have z0 := (cellH hb2 0).trans rfl
        have z1 := (cellH hb2 1).trans rfl
        have HM2 := Lib.hid hm2
        have HBW := Lib.hid (hm2.bel w.heap.size w (Nat.le_refl _) hWdB)
        clear hb1 hb2 hm1 hm2 hmd hWdb hWdB hWds
        have HC2 := Lib.hid (cnt_next HC.out HKY.out hdup)
        have HO2 := Lib.hid (once_next HO.out HKY.out hdup)
        clear hlk hdup
        subst hWd
        go_wp2_with fail
        go_region
        go_wp2_with fail
        go_roundw
        case rel => exact ⟨k + 1, _, by omega, by go_num, Lib.hid HM2.out.map, HC2, HO2, HBW⟩
        case measure => simp [intOf]; omega
    · have HT : Hid (TwAt ks none) := Lib.hid (by have := HO.out; rw [show k = ks.length by have := HNL.out; omega] at this; exact this)
      go_wp2_with fail
      try simp only [Exit.inBlock, Exit.then]
      refine bodyPost_ret (by simp [results, Try.results18, go_sem, Result.andThen]; try rfl) rfl ?_
      exact ⟨none, HT.out, rfl, HB.out⟩
end Go.Proofs.Ytpgmlagkpigdjaa
