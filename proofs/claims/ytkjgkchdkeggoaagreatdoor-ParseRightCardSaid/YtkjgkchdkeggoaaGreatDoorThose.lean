/-
  those: the tokens whose kinds are as asked.
-/
import Derived.Test.YtkjgkchdkeggoaaGreatDoorEach
import Derived.Deep.AppendLies
import Derived.Laws.OwnMore
import Derived.OwnWalk
namespace Go.Proofs.YtkjgkchdkeggoaaGreatDoor
open Go.RowKit
set_option maxRecDepth 20000
set_option linter.unusedVariables false
set_option linter.unusedSimpArgs false

def cellsT : List Tok → List Value
  | [] => []
  | t :: r => .int .i64 t.k :: .int .i64 (t.a : Int) :: .int .i64 (t.e : Int) :: cellsT r
theorem cellsT_append (a b : List Tok) : cellsT (a ++ b) = cellsT a ++ cellsT b := by
  induction a with
  | nil => rfl
  | cons x r ih => simp [cellsT, ih]
theorem info26 : (Tryz.prog.info? 39).map (fun i => (i.zero, i.size, i.bytes)) = some (some (.agg #[.int .i64 0, .int .i64 0, .int .i64 0]), 3, 24) := by kernel_rfl

/-- What those has gathered, in its own two variables. -/
structure TakesT (B : Nat) (w0 : World) (m : Nat) (l : List Tok) (v : Value) (w : World) : Prop where
  ask : w.heap[B]? = some (.cells #[.func (.func m) #[] #[]] 40 (0, 0))
  out : w.heap[B + 1]? = some (.cells #[v] 32 (0, 0))
  own : w.ownsRow (B + 2) 39 3 v l.length (cellsT l)
  below : Below B w0 w
  kw : Kw w
theorem ownsRow_below {w w' : World} {base : Nat} {e : TypeId} {size : Nat} {v : Value} {n : Nat} {xs : List Value} (h : w.ownsRow base e size v n xs) (hb : Below w.heap.size w w') : w'.ownsRow base e size v n xs := by
  refine ⟨h.1, ?_⟩
  rcases h.2 with h0 | ⟨g, cap, cur, hv, hg, hh, r⟩
  · exact .inl h0
  · exact .inr ⟨g, cap, cur, hv, hg, (hb.block g (lt_of_block hh)).trans hh, r⟩
theorem TakesT.step {B : Nat} {w0 : World} {m : Nat} {l : List Tok} {v : Value} {w w' : World} (h : TakesT B w0 m l v w) (hb : Below w.heap.size w w') : TakesT B w0 m l v w' :=
  ⟨(hb.block _ (lt_of_block h.ask)).trans h.ask, (hb.block _ (lt_of_block h.out)).trans h.out, ownsRow_below h.own hb, h.below.trans (hb.mono (Nat.le_of_lt (lt_of_block h.ask))), h.kw.step hb⟩

set_option maxHeartbeats 1000000 in
theorem t1_no (m : Nat) (ask : Int → Bool) (hcf : ∀ args w, Sem.run Tryz.prog (callFunc m args) w = .ok (.enter m args) w) (T : Tok)
    (hm : ∀ w, Calls Tryz.prog m #[.int .i64 T.k] w fun e w' => e = .returned (.bool false) ∧ w = w')
    (B : Nat) (w0 w : World) (o : Obj) (l : List Tok) (v : Value) (h : TakesT B w0 m l v w) :
    Calls Tryz.prog 81 #[T.v, .pointer (some ⟨B, 0, none⟩), .pointer (some ⟨B + 1, 0, none⟩)] (w.alloc o) fun e w' => e = .returned (.bool true) ∧ TakesT B w0 m l v w' ∧ w'.heap[w.heap.size]? = some o := by
  have hA := (h.step ((Below.refl _ _).alloc (Nat.le_refl _) o))
  have c0 := cell_of_one hA.ask
  have hlt := lt_of_block h.ask
  have HA := Lib.hid hA
  clear hA h
  obtain ⟨k, a, e⟩ := T
  simp only [Tok.v] at *
  go_enter Tryz.func81, Tryz.ntmps81
  go_wp2_with fail
  refine (hm _).mono ?_
  rintro e w1 ⟨rfl, rfl⟩
  go_wp2_with fail
  go_returns
  refine ⟨rfl, HA.out.step (by go_grown), ?_⟩
  rw [heap_alloc_old _ _ (by simp)]
  exact heap_alloc_new w o
theorem ownsRow_low {w : World} {base : Nat} {e : TypeId} {size : Nat} {v : Value} {n : Nat} {xs : List Value} (h : w.ownsRow base e size v n xs) {b o : Nat} (hb : b < base) (u : Value) : (w.setCell ⟨b, o, none⟩ u).ownsRow base e size v n xs := by
  refine h.kept (row := some b) ⟨rfl, rfl, rfl, by simp [World.setCell], fun k _ hk => Below.heap_setCell _ _ _ _ (fun e => hk (by simp [e]))⟩ ?_
  cases hv : v.ownBlock with
  | none => exact .inl rfl
  | some g => exact .inr (fun e => by have := (h.lt g hv).1; simp only [Option.some.injEq] at e; omega)
theorem ownsRow_below_far {w : World} {base : Nat} {e : TypeId} {size : Nat} {v : Value} {n : Nat} {xs : List Value} (h : w.ownsRow base e size v n xs) {k : Nat} (hk : k < base) : v.ownBlock ≠ some k := fun g => by
  have := (h.lt k g).1; omega

set_option maxHeartbeats 1000000 in
theorem t1_yes (m : Nat) (ask : Int → Bool) (hcf : ∀ args w, Sem.run Tryz.prog (callFunc m args) w = .ok (.enter m args) w) (T : Tok)
    (hm : ∀ w, Calls Tryz.prog m #[.int .i64 T.k] w fun e w' => e = .returned (.bool true) ∧ w = w')
    (B : Nat) (w0 w : World) (o : Obj) (l : List Tok) (v : Value) (h : TakesT B w0 m l v w) (hl : l.length ≤ 1000000) :
    Calls Tryz.prog 81 #[T.v, .pointer (some ⟨B, 0, none⟩), .pointer (some ⟨B + 1, 0, none⟩)] (w.alloc o) fun e w' => e = .returned (.bool true) ∧ (∃ v', TakesT B w0 m (l ++ [T]) v' w') ∧ w'.heap[w.heap.size]? = some o := by
  have hlt := lt_of_block h.ask
  have hlt1 := lt_of_block h.out
  obtain ⟨i0, hi0, hy0, hy1, hy2⟩ := info_parts info26
  obtain ⟨k, a, e⟩ := T
  simp only [Tok.v] at *
  have hA := (h.step ((Below.refl _ _).alloc (Nat.le_refl _) o))
  have c0 := cell_of_one hA.ask
  have hA2 := hA.step ((Below.refl _ _).alloc (Nat.le_refl _) (.cells #[.int .i64 k, .int .i64 (a : Int), .int .i64 (e : Int)] 39))
  have c1 := cell_of_one hA2.out
  have hA3 := hA2.step ((Below.refl _ _).alloc (Nat.le_refl _) (.cells #[.int .i64 k, .int .i64 (a : Int), .int .i64 (e : Int)] 39))
  have HA3 := Lib.hid hA3
  have HW := Lib.hid h
  clear hA hA2 hA3 h
  go_enter Tryz.func81, Tryz.ntmps81
  go_wp2_with fail
  refine (hm _).mono ?_
  rintro e' w1 ⟨rfl, rfl⟩
  go_wp2_with (at_builtin; refine wpList_append_own _ rfl (.tmp 9) (.tmp 11) 32 rfl (B + 2) 39 i0 (.agg #[.int .i64 0, .int .i64 0, .int .i64 0]) 3 24 Tryz.underlying32 hi0 hy0 hy1 hy2 rfl (by omega) v l.length (cellsT l) rfl HA3.out.own ⟨w.heap.size + 1 + 1, 0, none⟩ 1 1 [.int .i64 k, .int .i64 (a : Int), .int .i64 (e : Int)] rfl rfl (World.news_of_block (cs := #[.int .i64 k, .int .i64 (a : Int), .int .i64 (e : Int)]) (t := 39) (fr := (0, 0)) (by have := heap_alloc_new ((w.alloc o).alloc (.cells #[.int .i64 k, .int .i64 (a : Int), .int .i64 (e : Int)] 39)) (.cells #[.int .i64 k, .int .i64 (a : Int), .int .i64 (e : Int)] 39); simpa using this)) (by simp [Value.oneCell']) (by unfold maxLen; omega) (by omega) (by simp; omega) ?_)
  intro v' w2 hown hg hne
  obtain ⟨g', cap', rfl⟩ : ∃ g c, v' = .slice (some ⟨g, 0, none⟩) (l.length + 1) c := by
    rcases hown.2 with ⟨e1, e2⟩ | ⟨g, c, _, e1, _⟩
    · omega
    · exact ⟨g, c, e1⟩
  have n0 := ownsRow_below_far HW.out.own (k := B) (by omega)
  have n1 := ownsRow_below_far HW.out.own (k := B + 1) (by omega)
  have n2 : v.ownBlock ≠ some w.heap.size := fun e => by have := (HW.out.own.lt _ e).2; omega
  have b0 := (hg.block B (by simp; omega) (Ne.symm n0)).trans HA3.out.ask
  have b1 := (hg.block (B + 1) (by simp; omega) (Ne.symm n1)).trans HA3.out.out
  have b2 : w2.heap[w.heap.size]? = some o := (hg.block w.heap.size (by simp; omega) (Ne.symm n2)).trans (by rw [heap_alloc_old _ _ (by simp; omega), heap_alloc_old _ _ (by simp)]; exact heap_alloc_new w o)
  have c2 := cell_of_one b1
  have f2 := free_of_one b1
  have hsz : w.heap.size < w2.heap.size := lt_of_block b2
  have hbe : Below B w0 w2 := HA3.out.below.grown hg (by simp; omega) (fun k hk => by have := (HW.out.own.lt k hk).1; omega)
  have hkw : Kw w2 := by
    obtain ⟨⟨t, fr, hk⟩, _⟩ := HA3.out.kw
    refine Kw.of (t := t) (fr := fr) ((hg.block 0 (Array.getElem?_eq_some_iff.1 hk).1 ?_).trans hk)
    intro e
    have := (HW.out.own.lt 0 e.symm).1
    omega
  have FIN : TakesT B w0 m (l ++ [⟨k, a, e⟩]) (.slice (some ⟨g', 0, none⟩) (l.length + 1) cap') (w2.setCell ⟨B + 1, 0, none⟩ (.slice (some ⟨g', 0, none⟩) (l.length + 1) cap')) := by
    refine ⟨(Below.heap_setCell _ _ _ _ (show B ≠ B + 1 by omega)).trans b0, one_setCell b1, ?_, hbe.setCell (show B ≤ B + 1 by omega) _, ?_⟩
    · rw [List.length_append, cellsT_append]
      exact ownsRow_low hown (by omega) _
    · obtain ⟨⟨t, fr, hk⟩, _⟩ := hkw
      refine Kw.of (t := t) (fr := fr) ((Below.heap_setCell _ _ _ _ (show (0 : Nat) ≠ B + 1 by omega)).trans hk)
  have FIN := Lib.hid FIN
  have B2 := Lib.hid ((Below.heap_setCell w2 ⟨B + 1, 0, none⟩ (.slice (some ⟨g', 0, none⟩) (l.length + 1) cap') w.heap.size (show w.heap.size ≠ B + 1 by omega)).trans b2)
  clear hown hg hne n0 n1 n2 b0 b1 b2 hbe hkw
  go_wp2_with fail
  go_returns
  exact ⟨rfl, ⟨_, FIN.out⟩, B2.out⟩
/-- The tokens whose kinds are as asked. -/
def pickT (ask : Int → Bool) : List Tok → List Tok
  | [] => []
  | t :: r => bif ask t.k then t :: pickT ask r else pickT ask r
theorem pickT_append (ask : Int → Bool) (a b : List Tok) : pickT ask (a ++ b) = pickT ask a ++ pickT ask b := by
  induction a with
  | nil => rfl
  | cons x r ih => simp only [List.cons_append, pickT]; cases ask x.k <;> simp [ih]
theorem pickT_length (ask : Int → Bool) (l : List Tok) : (pickT ask l).length ≤ l.length := by
  induction l with
  | nil => simp [pickT]
  | cons x r ih => simp only [pickT]; cases ask x.k <;> simp <;> omega
theorem t1_any (m : Nat) (ask : Int → Bool) (hcf : ∀ args w, Sem.run Tryz.prog (callFunc m args) w = .ok (.enter m args) w) (T : Tok)
    (hm : ∀ w, Calls Tryz.prog m #[.int .i64 T.k] w fun e w' => e = .returned (.bool (ask T.k)) ∧ w = w')
    (B : Nat) (w0 w : World) (o : Obj) (l : List Tok) (v : Value) (h : TakesT B w0 m l v w) (hl : l.length ≤ 1000000) :
    Calls Tryz.prog 81 #[T.v, .pointer (some ⟨B, 0, none⟩), .pointer (some ⟨B + 1, 0, none⟩)] (w.alloc o) fun e w' => e = .returned (.bool true) ∧ (∃ v', TakesT B w0 m (l ++ pickT ask [T]) v' w') ∧ w'.heap[w.heap.size]? = some o := by
  cases ha : ask T.k
  · refine (t1_no m ask hcf T (fun w => by have := hm w; rw [ha] at this; exact this) B w0 w o l v h).mono ?_
    rintro e w' ⟨rfl, h1, h2⟩
    exact ⟨rfl, ⟨v, by simpa [pickT, ha] using h1⟩, h2⟩
  · refine (t1_yes m ask hcf T (fun w => by have := hm w; rw [ha] at this; exact this) B w0 w o l v h hl).mono ?_
    rintro e w' ⟨rfl, ⟨v', h1⟩, h2⟩
    exact ⟨rfl, ⟨v', by simpa [pickT, ha] using h1⟩, h2⟩
theorem cf20 (args : Array Value) (w : World) : Sem.run Tryz.prog (callFunc 81 args) w = .ok (.enter 81 args) w := cf_enter Tryz.func81 (by kernel_rfl) (by kernel_rfl) args w

/-- A slice of tokens, made by the call itself, that holds these. -/
def ToksAt (w : World) (v : Value) (l : List Tok) : Prop := ∃ base, w.ownsRow base 39 3 v l.length (cellsT l)

set_option maxHeartbeats 1000000 in
theorem those_any (m : Nat) (ask : Int → Bool) (hcf : ∀ args w, Sem.run Tryz.prog (callFunc m args) w = .ok (.enter m args) w)
    (hm : ∀ k w, Calls Tryz.prog m #[.int .i64 k] w fun e w' => e = .returned (.bool (ask k)) ∧ w = w')
    (s : ByteArray) (hs : s.size ≤ 1000000) (w : World) (hk : Kw w) :
    Calls Tryz.prog 56 #[.string s, .func (.func m) #[] #[]] w fun e w' => ∃ v, e = .returned v ∧ ToksAt w' v (pickT ask (uptoN (fun _ => true) (restT s 0))) ∧ Below w.heap.size w w' := by
  have h0 : TakesT w.heap.size w m [] (.slice none 0 0) ((w.alloc (.cells #[.func (.func m) #[] #[]] 40)).alloc (.cells #[.slice none 0 0] 32)) := by
    refine ⟨?_, ?_, World.ownsRow_nil _ _ _ _, ((Below.refl _ _).alloc (Nat.le_refl _) _).alloc (by simp) _, (hk.alloc _).alloc _⟩
    · rw [heap_alloc_old _ _ (by simp)]; exact heap_alloc_new w _
    · have := heap_alloc_new (w.alloc (.cells #[.func (.func m) #[] #[]] 40)) (.cells #[.slice none 0 0] 32); simpa using this
  have HE := each_any (fun _ => true) (fun l W => ∃ v, TakesT w.heap.size w m (pickT ask l) v W) 81 #[.pointer (some ⟨w.heap.size, 0, none⟩), .pointer (some ⟨w.heap.size + 1, 0, none⟩)] cf20 s hs (fun l W W' h hb => by obtain ⟨v, h⟩ := h; exact ⟨v, h.step hb⟩) (fun l W h => by obtain ⟨v, h⟩ := h; exact h.kw)
    (fun l a W o ha hl _ h => by
      obtain ⟨v, h⟩ := h
      refine (t1_any m ask hcf (tokAt s a) (hm _) w.heap.size w W o _ v h (by have := pickT_length ask l; omega)).mono ?_
      rintro e w' ⟨rfl, h1, h2⟩
      exact ⟨rfl, by rw [pickT_append]; exact h1, h2⟩)
    _ ⟨_, h0⟩
  have hmf : ∀ (fn : Fn) (first cap : Array Value) (w : World), (Instr.makeFunc fn first cap).run Tryz.prog w = .ok (.func fn first cap) w := fun _ _ _ _ => rfl
  clear h0 hm hk
  generalize pickT ask (uptoN (fun _ => true) (restT s 0)) = L at *
  go_enter Tryz.func56, Tryz.ntmps56
  go_wp2_with fail
  refine HE.mono ?_
  rintro e w1 ⟨rfl, v, h1⟩
  have c0 := cell_of_one h1.out
  have H1 := Lib.hid h1
  clear h1
  go_wp2_with fail
  go_returns
  exact ⟨v, rfl, ⟨_, H1.out.own⟩, H1.out.below⟩
end Go.Proofs.YtkjgkchdkeggoaaGreatDoor
