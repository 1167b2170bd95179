/-
  The walk for what is missed: any pair; missing, walked.; gather and Match, walked (match.go).; Match, walked (match.go).
-/
import Derived.Laws.EntriesVeiled
import Derived.Test.YtagkpcnedccaiaaGE
import Derived.Test.YtagkpcnedccaiaaGC
import Derived.BigRegion
namespace Go.Proofs.Ytagkpcnedccaiaa
open Go.ChangeShapes Go.WideShapes Go.ChangeAt Go.RowKit Go.Deep
set_option maxRecDepth 20000
set_option linter.unusedVariables false
set_option linter.unusedSimpArgs false

theorem miss_any (w0 : World) (b cm cwb : Nat) (hb0 : w0.heap.size ≤ b) : ∀ (m : Nat) (x y : List Bn) (n : Nat) (a d : Option Nat) (w : World) (C : Nat) (tab : List ((Option Nat × Option Nat) × Value)),
  sizes x ≤ m → sizes x ≤ n → sizes x ≤ 4000 → Below w0.heap.size w0 w → EnvIs w0 (a.bind at0) x → EnvIs w0 (d.bind at0) y → w.heap[cm]? = some (.cells #[.map (some b)] 73 (0, 0)) →
  w.heap[cwb]? = some (.cells #[.func (.func 35) #[] #[.pointer (some ⟨cm, 0, none⟩), .pointer (some ⟨cwb, 0, none⟩)]] 52 (0, 0)) → MapV pairV w b tab → Cts tab C → C + sizes x ≤ 7000000 → GdT w0 tab → Dn w0 n (tab.map (·.1)) →
  Calls Try.prog 35 #[.agg #[.pointer (a.bind at0), .pointer (d.bind at0)], .pointer (some ⟨cm, 0, none⟩), .pointer (some ⟨cwb, 0, none⟩)] w (MissPost w0 w b C (tab.map (·.1)) x y) := by
 intro m
 induction m with
 | zero =>
  intro x y n a d w C tab hm hn h4 hB hx hy hcm hcw hmv hct hC hgt hdn
  by_cases hin : (a, d) ∈ tab.map (·.1)
  ·exact miss_met w0 w n C b cm a d _ tab x y hB hb0 hx hy hcm hmv hct (by omega) hgt hdn hn hin
  ·exact miss_fresh w0 w C b cm a d cwb tab x y hB hb0 hx hy hcm hmv hct hC hgt (hdn.le (by omega)) h4 hin hcw (fun x1 y1 a1 d1 w1 C1 tab1 hs => by omega)
 | succ m ih =>
  intro x y n a d w C tab hm hn h4 hB hx hy hcm hcw hmv hct hC hgt hdn
  by_cases hin : (a, d) ∈ tab.map (·.1)
  ·exact miss_met w0 w n C b cm a d _ tab x y hB hb0 hx hy hcm hmv hct (by omega) hgt hdn hn hin
  ·exact miss_fresh w0 w C b cm a d cwb tab x y hB hb0 hx hy hcm hmv hct hC hgt (hdn.le (by omega)) h4 hin hcw (fun x1 y1 a1 d1 w1 C1 tab1 hs h1 h2 h3 g1 g2 g3 g4 g5 g6 g7 => ih x1 y1 (sizes x - 1) a1 d1 w1 C1 tab1 (by omega) (by omega) (by omega) h1 h2 h3 g1 g2 g3 g4 g5 g6 g7)

theorem ansV_three (r : Except Ky (List (Int × Int))) : ∃ (i : Int) (s : ByteArray) (t : Bool), ansV r = .tuple #[.agg #[.int .i64 i, .string s], .bool t] := by
 cases r with
 | ok l => exact ⟨_, _, _, rfl⟩
 | error k => exact ⟨_, _, _, rfl⟩
set_option maxHeartbeats 8000000 in
theorem missing_any (w : World) (a d : Option Nat) (x y : List Bn) (hx : EnvIs w (a.bind at0) x) (hy : EnvIs w (d.bind at0) y) (hs : sizes x ≤ 4000) :
  Calls Try.prog 23 #[.agg #[.pointer (a.bind at0), .pointer (d.bind at0)]] w fun e w' => e = .returned (ansV (mt x y)) ∧ Below w.heap.size w w' := by
 have hmm := @run_makeMap Try.prog
 have hmf : ∀ (fn : Fn) (first cap : Array Value) (w : World), (Instr.makeFunc fn first cap).run Try.prog w = .ok (.func fn first cap) w := fun _ _ _ _ => rfl
 obtain ⟨ki, ks, kt, hk⟩ := ansV_three (mt x y)
 have hbig : ∀ W0, W0 = (((((w.alloc (.cells #[.pointer (a.bind at0), .pointer (d.bind at0)] 54)).alloc (.cells #[.int .i64 0, .string ⟨#[]⟩] 27)).alloc (.map #[] 0)).alloc (.cells #[.map (some (w.heap.size + 1 + 1))] 73)).alloc
   (.cells #[.func (.func 35) #[] #[.pointer (some ⟨w.heap.size + 1 + 1 + 1, 0, none⟩), .pointer (some ⟨w.heap.size + 1 + 1 + 1 + 1, 0, none⟩)]] 52)) →
   Below w.heap.size w W0 ∧ W0.heap[w.heap.size + 1]? = some (.cells #[.int .i64 0, .string ⟨#[]⟩] 27 (0, 0)) ∧ MapV pairV W0 (w.heap.size + 1 + 1) [] ∧ W0.heap[w.heap.size + 1 + 1 + 1]? = some (.cells #[.map (some (w.heap.size + 1 + 1))] 73 (0, 0)) ∧
   W0.heap[w.heap.size + 1 + 1 + 1 + 1]? = some (.cells #[.func (.func 35) #[] #[.pointer (some ⟨w.heap.size + 1 + 1 + 1, 0, none⟩), .pointer (some ⟨w.heap.size + 1 + 1 + 1 + 1, 0, none⟩)]] 52 (0, 0)) ∧ W0.heap.size = w.heap.size + 5 := by
  intro W0 hW0
  obtain ⟨w1, h1⟩ : ∃ w1, w1 = w.alloc (.cells #[.pointer (a.bind at0), .pointer (d.bind at0)] 54) := ⟨_, rfl⟩
  rw [← h1] at hW0
  have z1 : w1.heap.size = w.heap.size + 1 := by rw [h1]; simp
  have b1 : Below w.heap.size w w1 := by rw [h1]; exact (Below.refl _ _).alloc (Nat.le_refl _) _
  clear h1
  obtain ⟨w2, h2⟩ : ∃ w2, w2 = w1.alloc (.cells #[.int .i64 0, .string ⟨#[]⟩] 27) := ⟨_, rfl⟩
  rw [← h2] at hW0
  have z2 : w2.heap.size = w.heap.size + 1 + 1 := by rw [h2]; simp [z1]
  have b2 : Below w1.heap.size w1 w2 := by rw [h2]; exact (Below.refl _ _).alloc (Nat.le_refl _) _
  have e2 : w2.heap[w.heap.size + 1]? = some (.cells #[.int .i64 0, .string ⟨#[]⟩] 27 (0, 0)) := by rw [h2, ← z1]; exact heap_new _ _
  clear h2
  obtain ⟨w3, h3⟩ : ∃ w3, w3 = w2.alloc (.map #[] 0) := ⟨_, rfl⟩
  rw [← h3] at hW0
  have z3 : w3.heap.size = w.heap.size + 1 + 1 + 1 := by rw [h3]; simp [z2]
  have b3 : Below w2.heap.size w2 w3 := by rw [h3]; exact (Below.refl _ _).alloc (Nat.le_refl _) _
  have e3 : MapV pairV w3 (w.heap.size + 1 + 1) [] := by rw [h3, ← z2]; exact MapV.made _
  clear h3
  obtain ⟨w4, h4⟩ : ∃ w4, w4 = w3.alloc (.cells #[.map (some (w.heap.size + 1 + 1))] 73) := ⟨_, rfl⟩
  rw [← h4] at hW0
  have z4 : w4.heap.size = w.heap.size + 1 + 1 + 1 + 1 := by rw [h4]; simp [z3]
  have b4 : Below w3.heap.size w3 w4 := by rw [h4]; exact (Below.refl _ _).alloc (Nat.le_refl _) _
  have e4 : w4.heap[w.heap.size + 1 + 1 + 1]? = some (.cells #[.map (some (w.heap.size + 1 + 1))] 73 (0, 0)) := by rw [h4, ← z3]; exact heap_new _ _
  clear h4
  have b5 : Below w4.heap.size w4 W0 := by rw [hW0]; exact (Below.refl _ _).alloc (Nat.le_refl _) _
  have z5 : W0.heap.size = w.heap.size + 5 := by rw [hW0]; simp [z4]
  have e5 : W0.heap[w4.heap.size]? = some (.cells #[.func (.func 35) #[] #[.pointer (some ⟨w.heap.size + 1 + 1 + 1, 0, none⟩), .pointer (some ⟨w.heap.size + 1 + 1 + 1 + 1, 0, none⟩)]] 52 (0, 0)) := by rw [hW0]; exact heap_new _ _
  rw [z4] at e5
  have b25 : Below w2.heap.size w2 W0 := (b3.trans (b4.mono (by omega))).trans (b5.mono (by omega))
  exact ⟨(b1.trans (b2.mono (by omega))).trans (b25.mono (by omega)), heap_step e2 b25, (e3.step b4).step b5, heap_step e4 b5, e5, z5⟩
 have HC : Hid (∀ W0, W0 = (((((w.alloc (.cells #[.pointer (a.bind at0), .pointer (d.bind at0)] 54)).alloc (.cells #[.int .i64 0, .string ⟨#[]⟩] 27)).alloc (.map #[] 0)).alloc (.cells #[.map (some (w.heap.size + 1 + 1))] 73)).alloc
   (.cells #[.func (.func 35) #[] #[.pointer (some ⟨w.heap.size + 1 + 1 + 1, 0, none⟩), .pointer (some ⟨w.heap.size + 1 + 1 + 1 + 1, 0, none⟩)]] 52)) →
   Calls Try.prog 35 #[.agg #[.pointer (a.bind at0), .pointer (d.bind at0)], .pointer (some ⟨w.heap.size + 1 + 1 + 1, 0, none⟩), .pointer (some ⟨w.heap.size + 1 + 1 + 1 + 1, 0, none⟩)] W0 fun e w' => e = .returned (.tuple #[.agg #[.int .i64 ki, .string ks], .bool kt]) ∧
    Below w.heap.size w w' ∧ w'.heap[w.heap.size + 1]? = some (.cells #[.int .i64 0, .string ⟨#[]⟩] 27 (0, 0))) := Lib.hid fun W0 hW0 => by
  obtain ⟨h1, h2, h3, h4, h5, h6⟩ := hbig W0 hW0
  refine (miss_any w (w.heap.size + 1 + 1) (w.heap.size + 1 + 1 + 1) (w.heap.size + 1 + 1 + 1 + 1) (by omega) 4000 x y 4000 a d W0 0 [] hs hs hs h1 hx hy h4 h5 h3 (fun k v hv => by simp [lkm] at hv) (by omega) (fun k hk => by simp at hk) (Dn.nil _ _)).mono ?_
  rintro e w' ⟨rfl, hm, _⟩
  exact ⟨by rw [hk], hm.bel _ _ (by omega) h1, (hm.kp.blk (w.heap.size + 1) (heap_lt h2) (by omega)).trans h2⟩
 rw [hk]
 clear hbig hx hy hk hs
 go_enter Try.func23, Try.ntmps23
 go_wp2_with (go_at_call 35; refine (HC.out _ rfl).mono ?_; rintro e w3 ⟨rfl, hb3, h3⟩; have HB3 := Lib.hid hb3; have H3 := Lib.hid h3; have c0 : w3.cell? ⟨w.heap.size + 1, 0, none⟩ = some (.int .i64 0) := (cellH h3 0).trans rfl; have c1 : w3.cell? ⟨w.heap.size + 1, 1, none⟩ = some (.string ⟨#[]⟩) := (cellH h3 1).trans rfl; have f0 : w3.frozen? ⟨w.heap.size + 1, 0, none⟩ = false := frozenH h3 0; have f1 : w3.frozen? ⟨w.heap.size + 1, 1, none⟩ = false := frozenH h3 1; clear hb3 h3)
 have q2 : ((w3.setCell ⟨w.heap.size + 1, 0, none⟩ (.int .i64 ki)).setCell ⟨w.heap.size + 1, 1, none⟩ (.string ks)).heap[w.heap.size + 1]? = some (.cells #[.int .i64 ki, .string ks] 27 (0, 0)) := by
  have h1 := heap_setCell_same _ (w.heap.size + 1) 0 _ _ (.int .i64 ki) H3.out
  have h2 := heap_setCell_same _ (w.heap.size + 1) 1 _ _ (.string ks) h1
  simpa using h2
 have HZ := Lib.hid ((HB3.out.setCell (p := ⟨w.heap.size + 1, 0, none⟩) (by simp only; omega) (.int .i64 ki)).setCell (p := ⟨w.heap.size + 1, 1, none⟩) (by simp only; omega) (.string ks))
 clear c0 c1 f0 f1
 generalize ((w3.setCell ⟨w.heap.size + 1, 0, none⟩ (.int .i64 ki)).setCell ⟨w.heap.size + 1, 1, none⟩ (.string ks)) = W3 at q2 HZ ⊢
 have x0 : W3.cell? ⟨w.heap.size + 1, 0, none⟩ = some (.int .i64 ki) := (cellH q2 0).trans rfl
 have x1 : W3.cell? ⟨w.heap.size + 1, 1, none⟩ = some (.string ks) := (cellH q2 1).trans rfl
 clear q2
 refine bodyPost_ret (by simp [results, Try.results23, go_sem, x0, x1, Result.andThen]; try rfl) rfl ?_
 exact ⟨rfl, HZ.out⟩
end Go.Proofs.Ytagkpcnedccaiaa

namespace Go.Proofs.Ytagkpcnedccaiaa
open Go.ChangeShapes Go.WideShapes Go.ChangeAt Go.RowKit Go.Deep
set_option maxRecDepth 20000
set_option linter.unusedVariables false
set_option linter.unusedSimpArgs false

theorem gat_any (w0 : World) (NB b cm cl cw : Nat) (hb0 : w0.heap.size ≤ b ∧ w0.heap.size ≤ cl ∧ w0.heap.size ≤ NB) : ∀ (m : Nat) (x y : List Bn) (n : Nat) (a d : Option Nat) (w : World) (v : Value) (ls : List P2) (T : List ((Option Nat × Option Nat) × Value)),
  sizes x ≤ m → sizes x ≤ n → sizes x ≤ 4000 → Gs w0 w NB b cm cl cw v ls T → Below w0.heap.size w0 w → EnvIs w0 (a.bind at0) x → EnvIs w0 (d.bind at0) y → isOk (mt x y) = true → Spn w0 n T ls → ls.length + sizes x ≤ 7000000 →
  Calls Try.prog 38 #[.agg #[.pointer (a.bind at0), .pointer (d.bind at0)], .pointer (some ⟨cm, 0, none⟩), .pointer (some ⟨cl, 0, none⟩), .pointer (some ⟨cw, 0, none⟩)] w (GatPost w0 w NB b cm cl cw ls T x y) := by
 intro m
 induction m with
 | zero =>
  intro x y n a d w v ls T hm hn h4 h hB hx hy hok hsp hl
  cases hin : lkm T (a, d) with
  | some v0 => exact gat_met w0 w NB b cm cl cw n v ls T a d x y h hB hb0.1 hx hy hok hsp hn hl (by rw [hin]; rfl)
  | none => exact gat_fresh w0 w NB b cm cl cw v ls T a d x y h hB hb0 hx hy hok (hsp.le (by omega)) hl h4 hin (fun x1 y1 a1 d1 w1 v1 ls1 T1 hs => by omega)
 | succ m ih =>
  intro x y n a d w v ls T hm hn h4 h hB hx hy hok hsp hl
  cases hin : lkm T (a, d) with
  | some v0 => exact gat_met w0 w NB b cm cl cw n v ls T a d x y h hB hb0.1 hx hy hok hsp hn hl (by rw [hin]; rfl)
  | none => exact gat_fresh w0 w NB b cm cl cw v ls T a d x y h hB hb0 hx hy hok (hsp.le (by omega)) hl h4 hin (fun x1 y1 a1 d1 w1 v1 ls1 T1 hs g1 g2 g3 g4 g5 g6 g7 => ih x1 y1 (sizes x - 1) a1 d1 w1 v1 ls1 T1 (by omega) (by omega) (by omega) g1 g2 g3 g4 g5 g6 g7)

set_option maxHeartbeats 8000000 in
theorem gather_any (w : World) (a d : Option Nat) (x y : List Bn) (hx : EnvIs w (a.bind at0) x) (hy : EnvIs w (d.bind at0) y) (hs : sizes x ≤ 4000) (hok : isOk (mt x y) = true) :
  Calls Try.prog 24 #[.agg #[.pointer (a.bind at0), .pointer (d.bind at0)]] w fun e w' => ∃ v, e = .returned v ∧ OwnP 48 w' w.heap.size v (okL (mt x y)) ∧ Below w.heap.size w w' := by
 have hmm := @run_makeMap Try.prog
 have hmf : ∀ (fn : Fn) (first cap : Array Value) (w : World), (Instr.makeFunc fn first cap).run Try.prog w = .ok (.func fn first cap) w := fun _ _ _ _ => rfl
 have HC : Hid (∀ W0, W0 = (((((w.alloc (.cells #[.pointer (a.bind at0), .pointer (d.bind at0)] 54)).alloc (.cells #[.slice none 0 0] 25)).alloc (.map #[] 0)).alloc (.cells #[.map (some (w.heap.size + 1 + 1))] 78)).alloc
   (.cells #[.func (.func 38) #[] #[.pointer (some ⟨w.heap.size + 1 + 1 + 1, 0, none⟩), .pointer (some ⟨w.heap.size + 1, 0, none⟩), .pointer (some ⟨w.heap.size + 1 + 1 + 1 + 1, 0, none⟩)]] 79)) →
   Calls Try.prog 38 #[.agg #[.pointer (a.bind at0), .pointer (d.bind at0)], .pointer (some ⟨w.heap.size + 1 + 1 + 1, 0, none⟩), .pointer (some ⟨w.heap.size + 1, 0, none⟩), .pointer (some ⟨w.heap.size + 1 + 1 + 1 + 1, 0, none⟩)] W0 fun e w' => e = .returned (.tuple #[]) ∧
    ∃ q n c, Below w.heap.size w w' ∧ w'.cell? ⟨w.heap.size + 1, 0, none⟩ = some (.slice q n c) ∧ OwnP 48 w' w.heap.size (.slice q n c) (okL (mt x y))) := Lib.hid fun W0 hW0 => by
  obtain ⟨w1, h1⟩ : ∃ w1, w1 = w.alloc (.cells #[.pointer (a.bind at0), .pointer (d.bind at0)] 54) := ⟨_, rfl⟩
  rw [← h1] at hW0
  have z1 : w1.heap.size = w.heap.size + 1 := by rw [h1]; simp
  have b1 : Below w.heap.size w w1 := by rw [h1]; exact (Below.refl _ _).alloc (Nat.le_refl _) _
  clear h1
  obtain ⟨w2, h2⟩ : ∃ w2, w2 = w1.alloc (.cells #[.slice none 0 0] 25) := ⟨_, rfl⟩
  rw [← h2] at hW0
  have z2 : w2.heap.size = w.heap.size + 1 + 1 := by rw [h2]; simp [z1]
  have b2 : Below w1.heap.size w1 w2 := by rw [h2]; exact (Below.refl _ _).alloc (Nat.le_refl _) _
  have e2 : w2.heap[w.heap.size + 1]? = some (.cells #[.slice none 0 0] 25 (0, 0)) := by rw [h2, ← z1]; exact heap_new _ _
  clear h2
  obtain ⟨w3, h3⟩ : ∃ w3, w3 = w2.alloc (.map #[] 0) := ⟨_, rfl⟩
  rw [← h3] at hW0
  have z3 : w3.heap.size = w.heap.size + 1 + 1 + 1 := by rw [h3]; simp [z2]
  have b3 : Below w2.heap.size w2 w3 := by rw [h3]; exact (Below.refl _ _).alloc (Nat.le_refl _) _
  have e3 : MapV pairV w3 (w.heap.size + 1 + 1) [] := by rw [h3, ← z2]; exact MapV.made _
  clear h3
  obtain ⟨w4, h4⟩ : ∃ w4, w4 = w3.alloc (.cells #[.map (some (w.heap.size + 1 + 1))] 78) := ⟨_, rfl⟩
  rw [← h4] at hW0
  have z4 : w4.heap.size = w.heap.size + 1 + 1 + 1 + 1 := by rw [h4]; simp [z3]
  have b4 : Below w3.heap.size w3 w4 := by rw [h4]; exact (Below.refl _ _).alloc (Nat.le_refl _) _
  have e4 : w4.heap[w.heap.size + 1 + 1 + 1]? = some (.cells #[.map (some (w.heap.size + 1 + 1))] 78 (0, 0)) := by rw [h4, ← z3]; exact heap_new _ _
  clear h4
  have b5 : Below w4.heap.size w4 W0 := by rw [hW0]; exact (Below.refl _ _).alloc (Nat.le_refl _) _
  have z5 : W0.heap.size = w.heap.size + 5 := by rw [hW0]; simp [z4]
  have e5 : W0.heap[w4.heap.size]? = some (.cells #[.func (.func 38) #[] #[.pointer (some ⟨w.heap.size + 1 + 1 + 1, 0, none⟩), .pointer (some ⟨w.heap.size + 1, 0, none⟩), .pointer (some ⟨w.heap.size + 1 + 1 + 1 + 1, 0, none⟩)]] 79 (0, 0)) := by rw [hW0]; exact heap_new _ _
  rw [z4] at e5
  have b25 : Below w2.heap.size w2 W0 := (b3.trans (b4.mono (by omega))).trans (b5.mono (by omega))
  have bb : Below w.heap.size w W0 := (b1.trans (b2.mono (by omega))).trans (b25.mono (by omega))
  have hgs : Gs w W0 (w.heap.size + 5) (w.heap.size + 1 + 1) (w.heap.size + 1 + 1 + 1) (w.heap.size + 1) (w.heap.size + 1 + 1 + 1 + 1) (.slice none 0 0) [] [] :=
   ⟨by omega, ⟨by omega, by omega, by omega, by omega⟩, heap_step e2 b25, OwnP.nil _ _ _, heap_step e4 b5, e5, (e3.step b4).step b5, fun k hk => by simp at hk⟩
  refine (gat_any w (w.heap.size + 5) (w.heap.size + 1 + 1) (w.heap.size + 1 + 1 + 1) (w.heap.size + 1) (w.heap.size + 1 + 1 + 1 + 1) ⟨by omega, by omega, by omega⟩ 4000 x y 4000 a d W0 _ [] [] hs hs hs hgs bb hx hy hok (Spn.nil _ _ _) (by simp; omega)).mono ?_
  rintro e w' ⟨rfl, v', T', g1, g2, g3⟩
  obtain ⟨q, n, c, rfl, _⟩ := g1.own.ps
  exact ⟨rfl, q, n, c, g3.bel _ _ (by omega) (by omega) (by omega) bb, (cellH g1.links 0).trans rfl, g1.own.base (by omega)⟩
 clear hx hy hs
 go_enter Try.func24, Try.ntmps24
 go_wp2_with (go_at_call 38; refine (HC.out _ rfl).mono ?_; rintro e w3 ⟨rfl, q, n, c, hb3, hc3, ho3⟩; have HB3 := Lib.hid hb3; have HO3 := Lib.hid ho3; clear hb3 ho3)
 go_ret
 exact ⟨_, rfl, HO3.out, HB3.out⟩
end Go.Proofs.Ytagkpcnedccaiaa

namespace Go.Proofs.Ytagkpcnedccaiaa
open Go.ChangeShapes Go.WideShapes Go.ChangeAt Go.RowKit Go.Deep
set_option maxRecDepth 20000
set_option linter.unusedVariables false
set_option linter.unusedSimpArgs false

/-- What a match answers: the links, the key that is missed, whether all is had. -/
def MatPost (w : World) (x y : List Bn) (e : Ending) (w' : World) : Prop :=
 ∃ v : Value, ∃ k : Ky, e = .returned (.tuple #[v, .agg #[.int .i64 k.1, .string k.2], .bool (isOk (mt x y))]) ∧ OwnP 48 w' w.heap.size v (okL (mt x y)) ∧ Below w.heap.size w w' ∧ (isOk (mt x y) = true → k = (0, ⟨#[]⟩)) ∧ ∀ k', mt x y = .error k' → k = k'
set_option maxHeartbeats 8000000 in
theorem match_any (w : World) (a d : Option Nat) (x y : List Bn) (hx : EnvIs w (a.bind at0) x) (hy : EnvIs w (d.bind at0) y) (hs : sizes x ≤ 4000) :
  Calls Try.prog 9 #[.pointer (a.bind at0), .pointer (d.bind at0)] w (MatPost w x y) := by
 have HM := Lib.hid fun (W : World) (hW : Below w.heap.size w W) => missing_any W a d x y (hx.step hW) (hy.step hW) hs
 have HXY := Lib.hid (And.intro hx hy)
 cases hm : mt x y with
 | error k =>
  rw [hm] at HM
  have HP : Hid (∀ e w', e = .returned (.tuple #[.slice none 0 0, .agg #[.int .i64 k.1, .string k.2], .bool false]) → Below w.heap.size w w' → MatPost w x y e w') := Lib.hid fun e w' he hb =>
   ⟨.slice none 0 0, k, he.trans (by rw [hm]; rfl), (by rw [hm]; exact OwnP.nil _ _ _), hb, (fun h => by rw [hm] at h; cases h), (fun k' hk => by rw [hm] at hk; cases hk; rfl)⟩
  have HM' : Hid (∀ (W : World), Below w.heap.size w W → Calls Try.prog 23 #[.agg #[.pointer (a.bind at0), .pointer (d.bind at0)]] W fun e w' => e = .returned (.tuple #[.agg #[.int .i64 k.1, .string k.2], .bool true]) ∧ Below W.heap.size W w') := Lib.hid HM.out
  obtain ⟨ki, ks⟩ := k
  dsimp only at HP HM'
  clear hx hy hs hm HM
  go_enter Try.func9, Try.ntmps9
  go_wp2_with (go_at_call 23; refine (HM'.out _ ((Below.refl _ _).alloc (Nat.le_refl _) _)).mono ?_; rintro e w2 ⟨rfl, hb2⟩; have HB2 := Lib.hid hb2; have g5 := heap_step (heap_new w (.cells #[.int .i64 0, .string ⟨#[]⟩] 27)) hb2; have HG5 := Lib.hid g5; have c0 : w2.cell? ⟨w.heap.size, 0, none⟩ = some (.int .i64 0) := (cellH g5 0).trans rfl; have c1 : w2.cell? ⟨w.heap.size, 1, none⟩ = some (.string ⟨#[]⟩) := (cellH g5 1).trans rfl; have f0 : w2.frozen? ⟨w.heap.size, 0, none⟩ = false := frozenH g5 0; have f1 : w2.frozen? ⟨w.heap.size, 1, none⟩ = false := frozenH g5 1; have s2 := heap_lt g5; clear hb2 g5)
  have q2 : (((w2.setCell ⟨w.heap.size, 0, none⟩ (.int .i64 ki)).setCell ⟨w.heap.size, 1, none⟩ (.string ks)).alloc (.cells #[.int .i64 ki, .string ks] 27)).drew.heap[w.heap.size]? = some (.cells #[.int .i64 ki, .string ks] 27 (0, 0)) := by
   have h1 := heap_setCell_same _ w.heap.size 0 _ _ (.int .i64 ki) HG5.out
   have h2 := heap_setCell_same _ w.heap.size 1 _ _ (.string ks) h1
   exact heap_step (by simpa using h2) (((Below.refl _ _).alloc (Nat.le_refl _) _).drew)
  have hbz : Below w.heap.size w w2 := ((Below.refl _ _).alloc (Nat.le_refl _) (.cells #[.int .i64 0, .string ⟨#[]⟩] 27)).trans (HB2.out.mono (by simp))
  have HZ := Lib.hid ((((hbz.setCell (p := ⟨w.heap.size, 0, none⟩) (by simp) (.int .i64 ki)).setCell (p := ⟨w.heap.size, 1, none⟩) (by simp) (.string ks)).alloc (by simp; omega) (.cells #[.int .i64 ki, .string ks] 27)).drew)
  clear hbz
  go_region
  all_goals (
   generalize (((w2.setCell ⟨w.heap.size, 0, none⟩ (.int .i64 ki)).setCell ⟨w.heap.size, 1, none⟩ (.string ks)).alloc (.cells #[.int .i64 ki, .string ks] 27)).drew = W3 at q2 HZ ⊢
   have x0 : W3.cell? ⟨w.heap.size, 0, none⟩ = some (.int .i64 ki) := (cellH q2 0).trans rfl
   have x1 : W3.cell? ⟨w.heap.size, 1, none⟩ = some (.string ks) := (cellH q2 1).trans rfl
   clear q2
   try simp only [Exit.inBlock, Exit.then]
   try go_wp2_with fail
   refine bodyPost_ret (by simp [results, Try.results9, go_sem, x0, x1, Result.andThen]; try rfl) rfl ?_
   exact HP.out _ _ rfl HZ.out)
 | ok l =>
  rw [hm] at HM
  have HM' : Hid (∀ (W : World), Below w.heap.size w W → Calls Try.prog 23 #[.agg #[.pointer (a.bind at0), .pointer (d.bind at0)]] W fun e w' => e = .returned (.tuple #[.agg #[.int .i64 0, .string ⟨#[]⟩], .bool false]) ∧ Below W.heap.size W w') := Lib.hid HM.out
  have HGA := Lib.hid fun (W : World) (hW : Below w.heap.size w W) => gather_any W a d x y (hx.step hW) (hy.step hW) hs (by rw [hm]; rfl)
  have HP : Hid (∀ v w', OwnP 48 w' w.heap.size v (okL (mt x y)) → Below w.heap.size w w' → MatPost w x y (.returned (.tuple #[v, .agg #[.int .i64 0, .string ⟨#[]⟩], .bool true])) w') := Lib.hid fun v w' ho hb =>
   ⟨v, (0, ⟨#[]⟩), (by rw [hm]; rfl), ho, hb, (fun _ => rfl), (fun k' hk => by rw [hm] at hk; cases hk)⟩
  clear hx hy hs hm HM
  go_enter Try.func9, Try.ntmps9
  go_wp2_with (first
   | (go_at_call 23; refine (HM'.out _ ((Below.refl _ _).alloc (Nat.le_refl _) _)).mono ?_; rintro e w2 ⟨rfl, hb2⟩; have HB2 := Lib.hid (((Below.refl _ _).alloc (Nat.le_refl _) (.cells #[.int .i64 0, .string ⟨#[]⟩] 27)).trans (hb2.mono (by simp))); have HG5 := Lib.hid (heap_step (heap_new w (.cells #[.int .i64 0, .string ⟨#[]⟩] 27)) hb2); clear hb2)
   | (go_at_call 24; have HB2A := Lib.hid (HB2.out.alloc HB2.out.size (.cells #[.int .i64 0, .string ⟨#[]⟩] 27)); refine (HGA.out _ HB2A.out).mono ?_; rintro e w3 ⟨v, rfl, ho3, hb3⟩; have HO3 := Lib.hid (ho3.base HB2A.out.size); have HB3 := Lib.hid (HB2A.out.trans (hb3.mono HB2A.out.size)); have g5 := heap_step (heap_step HG5.out ((Below.refl _ _).alloc (Nat.le_refl _) (.cells #[.int .i64 0, .string ⟨#[]⟩] 27))) hb3; have HG6 := Lib.hid g5; have c0 : w3.cell? ⟨w.heap.size, 0, none⟩ = some (.int .i64 0) := (cellH g5 0).trans rfl; have c1 : w3.cell? ⟨w.heap.size, 1, none⟩ = some (.string ⟨#[]⟩) := (cellH g5 1).trans rfl; have f0 : w3.frozen? ⟨w.heap.size, 0, none⟩ = false := frozenH g5 0; have f1 : w3.frozen? ⟨w.heap.size, 1, none⟩ = false := frozenH g5 1; have s3 := heap_lt g5; clear ho3 hb3 g5))
  have q2 : ((w3.setCell ⟨w.heap.size, 0, none⟩ (.int .i64 0)).setCell ⟨w.heap.size, 1, none⟩ (.string ⟨#[]⟩)).heap[w.heap.size]? = some (.cells #[.int .i64 0, .string ⟨#[]⟩] 27 (0, 0)) := by
   have h1 := heap_setCell_same _ w.heap.size 0 _ _ (.int .i64 0) HG6.out
   have h2 := heap_setCell_same _ w.heap.size 1 _ _ (.string ⟨#[]⟩) h1
   simpa using h2
  have HZ := Lib.hid ((HB3.out.setCell (p := ⟨w.heap.size, 0, none⟩) (by simp) (.int .i64 0)).setCell (p := ⟨w.heap.size, 1, none⟩) (by simp) (.string ⟨#[]⟩))
  have HO : Hid (OwnP 48 ((w3.setCell ⟨w.heap.size, 0, none⟩ (.int .i64 0)).setCell ⟨w.heap.size, 1, none⟩ (.string ⟨#[]⟩)) w.heap.size v (okL (mt x y))) := Lib.hid (by
   have hne := own_ne HO3.out HG6.out (no48 (by decide))
   obtain ⟨hl, h0 | ⟨g, cc, cur, hv, hbb, hgg, hr⟩⟩ := HO3.out
   ·exact ⟨hl, .inl h0⟩
   ·have hgk : g ≠ w.heap.size := fun e => hne (by rw [hv, e]; rfl)
    exact ⟨hl, .inr ⟨g, cc, cur, hv, hbb, (Below.heap_setCell _ ⟨w.heap.size, 1, none⟩ _ g hgk).trans ((Below.heap_setCell w3 ⟨w.heap.size, 0, none⟩ _ g hgk).trans hgg), hr⟩⟩)
  clear c0 c1 f0 f1
  generalize ((w3.setCell ⟨w.heap.size, 0, none⟩ (.int .i64 0)).setCell ⟨w.heap.size, 1, none⟩ (.string ⟨#[]⟩)) = W3 at q2 HZ HO ⊢
  have x0 : W3.cell? ⟨w.heap.size, 0, none⟩ = some (.int .i64 0) := (cellH q2 0).trans rfl
  have x1 : W3.cell? ⟨w.heap.size, 1, none⟩ = some (.string ⟨#[]⟩) := (cellH q2 1).trans rfl
  clear q2
  refine bodyPost_ret (by simp [results, Try.results9, go_sem, x0, x1, Result.andThen]; try rfl) rfl ?_
  exact HP.out _ _ HO.out HZ.out
end Go.Proofs.Ytagkpcnedccaiaa
