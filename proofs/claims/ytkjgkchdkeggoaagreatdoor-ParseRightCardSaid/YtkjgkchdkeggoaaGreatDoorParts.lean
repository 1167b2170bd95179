/-
  quoted, note, plain, by the way of the program.
-/
import Derived.Test.YtkjgkchdkeggoaaGreatDoorBytes
namespace Go.Proofs.YtkjgkchdkeggoaaGreatDoor
open Go.RowKit
set_option linter.unusedVariables false
set_option linter.unusedSimpArgs false

theorem cf_enter {f : FuncId} {fn : Func} (hf : Tryz.prog.funcs[f]? = some fn) (hname : (fn.name == "runtime.NumGoroutine") = false) (hb : fn.body.isNone = false) (args : Array Value) (w : World) :
    Sem.run Tryz.prog (callFunc f args) w = .ok (.enter f args) w := by
  have h1 : fn.name ≠ "runtime.NumGoroutine" := by simpa using hname
  show (callFunc f args).run Tryz.prog w = .ok (.enter f args) w
  obtain ⟨c, hc⟩ : ∃ c, fn.body = some c := by cases e : fn.body <;> simp_all
  simp [callFunc, hf, h1, hc]
theorem cf23 (args : Array Value) (w : World) : Sem.run Tryz.prog (callFunc 100 args) w = .ok (.enter 100 args) w := cf_enter Tryz.func100 (by kernel_rfl) (by kernel_rfl) args w
theorem cf28 (args : Array Value) (w : World) : Sem.run Tryz.prog (callFunc 105 args) w = .ok (.enter 105 args) w := cf_enter Tryz.func105 (by kernel_rfl) (by kernel_rfl) args w
theorem cf30 (args : Array Value) (w : World) : Sem.run Tryz.prog (callFunc 107 args) w = .ok (.enter 107 args) w := cf_enter Tryz.func107 (by kernel_rfl) (by kernel_rfl) args w
theorem cf31 (args : Array Value) (w : World) : Sem.run Tryz.prog (callFunc 117 args) w = .ok (.enter 117 args) w := cf_enter Tryz.func117 (by kernel_rfl) (by kernel_rfl) args w
theorem cf32 (args : Array Value) (w : World) : Sem.run Tryz.prog (callFunc 118 args) w = .ok (.enter 118 args) w := cf_enter Tryz.func118 (by kernel_rfl) (by kernel_rfl) args w
theorem cf34 (args : Array Value) (w : World) : Sem.run Tryz.prog (callFunc 120 args) w = .ok (.enter 120 args) w := cf_enter Tryz.func120 (by kernel_rfl) (by kernel_rfl) args w
theorem cf35 (args : Array Value) (w : World) : Sem.run Tryz.prog (callFunc 121 args) w = .ok (.enter 121 args) w := cf_enter Tryz.func121 (by kernel_rfl) (by kernel_rfl) args w

theorem pass_pure (g : UInt8 → Bool) (n : Nat) (hcf : ∀ args w, Sem.run Tryz.prog (callFunc n args) w = .ok (.enter n args) w) (hg : ∀ c w, Calls Tryz.prog n #[.int .u8 (c.toNat : Int)] w fun e w' => e = .returned (.bool (g c)) ∧ w = w')
    (s : ByteArray) (hs : s.size ≤ 1000000) (at0 : Nat) (ha : at0 ≤ s.size) (w : World) :
    Calls Tryz.prog 101 #[.string s, .int .i64 at0, .func (.func n) #[] #[]] w fun e w' => e = .returned (.int .i64 ((at0 + passN (pureF g) () (s.data.toList.drop at0) : Nat))) ∧ w = w' := by
  refine (pass_any (pureF g) (fun _ _ w' => w = w') n #[] hcf s hs ?_ at0 ha () w rfl).mono ?_
  · rintro k q c w' hk rfl
    refine (hg c w).mono ?_
    rintro e w' ⟨rfl, rfl⟩
    exact ⟨rfl, rfl⟩
  · rintro e w' ⟨rfl, k, q, h⟩
    exact ⟨rfl, h⟩

theorem headB_at (s : ByteArray) (k : Nat) (h : k < s.size) (n : Int) : headB (s.data.toList.drop k) n = ((s[k].toNat : Int) == n) := by
  rw [drop_at s k h]; rfl
theorem headB_end (s : ByteArray) (k : Nat) (h : s.size ≤ k) (n : Int) : headB (s.data.toList.drop k) n = false := by
  rw [List.drop_eq_nil_of_le (by rw [data_len]; exact h)]; rfl

set_option maxHeartbeats 1000000 in
theorem quoted_any (s : ByteArray) (hs : s.size ≤ 1000000) (at0 : Nat) (ha : at0 < s.size) (w : World) :
    Calls Tryz.prog 102 #[.string s, .int .i64 at0] w fun e w' => e = .returned (.tuple #[.int .i64 (quoteN (s.data.toList.drop (at0 + 1))).1, .int .i64 ((at0 + (quoteN (s.data.toList.drop (at0 + 1))).2 : Nat) : Int)]) ∧ Below w.heap.size w w' := by
  have hl := passN_le qF false (s.data.toList.drop (at0 + 1))
  rw [List.length_drop, data_len] at hl
  obtain ⟨E, hE⟩ : ∃ E, E = at0 + 1 + passN qF false (s.data.toList.drop (at0 + 1)) := ⟨_, rfl⟩
  have hEs : E ≤ s.size := by omega
  have hE1 : at0 + 1 ≤ E := by omega
  have hd : (s.data.toList.drop (at0 + 1)).drop (passN qF false (s.data.toList.drop (at0 + 1))) = s.data.toList.drop E := by rw [List.drop_drop, hE]
  have HQ : quoteN (s.data.toList.drop (at0 + 1)) = bif headB (s.data.toList.drop E) 34 then (5, E - at0 + 1) else (3, E - at0 + passN (pureF lineB) () (s.data.toList.drop E)) := by
    unfold quoteN
    simp only
    rw [hd]
    cases headB (s.data.toList.drop E) 34
    · simp only [cond_false]; rw [show passN qF false (s.data.toList.drop (at0 + 1)) + 1 = E - at0 from by omega]
    · simp only [cond_true]; rw [show passN qF false (s.data.toList.drop (at0 + 1)) + 2 = E - at0 + 1 from by omega]
  have HP : Calls Tryz.prog 101 #[.string s, .int .i64 ((at0 : Int) + 1), .func (.func 117) #[] #[.pointer (some ⟨w.heap.size, 0, none⟩)]] (w.alloc (.cells #[.bool false] 4)) fun e w' => e = .returned (.int .i64 (E : Int)) ∧ Below w.heap.size w w' := by
    have h0 : (w.alloc (.cells #[.bool false] 4)).heap[w.heap.size]? = some (.cells #[.bool false] 4 (0, 0)) := heap_alloc_new w _
    refine (show (at0 : Int) + 1 = ((at0 + 1 : Nat) : Int) from by omega) ▸ (pass_any qF (fun _ q w' => w'.heap[w.heap.size]? = some (.cells #[.bool q] 4 (0, 0)) ∧ Below w.heap.size w w') 117 #[.pointer (some ⟨w.heap.size, 0, none⟩)] cf31 s hs ?_ (at0 + 1) ha false _ ⟨h0, (Below.refl _ _).alloc (Nat.le_refl _) _⟩).mono ?_
    · rintro k q c w' hk ⟨hc, hb⟩
      refine (q1_any q c w.heap.size w' hc).mono ?_
      rintro e w1 ⟨rfl, rfl⟩
      exact ⟨rfl, one_setCell hc, hb.setCell (Nat.le_refl _) _⟩
    · rintro e w' ⟨rfl, k, q, hc, hb⟩
      exact ⟨by rw [hE], hb⟩
  have HL := fun W => pass_pure lineB 118 cf32 line_any s hs E hEs W
  have hmf : ∀ (fn : Fn) (first cap : Array Value) (w : World), (Instr.makeFunc fn first cap).run Tryz.prog w = .ok (.func fn first cap) w := fun _ _ _ _ => rfl
  have hl2 := passN_le (pureF lineB) () (s.data.toList.drop E)
  rw [List.length_drop, data_len] at hl2
  generalize passN (pureF lineB) () (s.data.toList.drop E) = m at *
  clear hE hd hl
  by_cases hlt : E < s.size
  · rw [headB_at s E hlt] at HQ
    have HQ := Lib.hid HQ
    cases he : ((s[E].toNat : Int) == 34) <;> rw [he] at HQ
    · go_enter Tryz.func102, Tryz.ntmps102
      go_wp2_with fail
      refine HP.mono ?_
      rintro e w1 ⟨rfl, hb⟩
      go_wp2_with fail
      refine (HL w1).mono ?_
      rintro e w2 ⟨rfl, rfl⟩
      go_wp2_with fail
      go_ret2
      rw [HQ.out]
      exact ⟨by simp; omega, hb⟩
    · go_enter Tryz.func102, Tryz.ntmps102
      go_wp2_with fail
      refine HP.mono ?_
      rintro e w1 ⟨rfl, hb⟩
      go_wp2_with fail
      go_ret2
      rw [HQ.out]
      exact ⟨by simp; omega, hb⟩
  · rw [headB_end s E (by omega)] at HQ
    have HQ := Lib.hid HQ
    go_enter Tryz.func102, Tryz.ntmps102
    go_wp2_with fail
    refine HP.mono ?_
    rintro e w1 ⟨rfl, hb⟩
    go_wp2_with fail
    refine (HL w1).mono ?_
    rintro e w2 ⟨rfl, rfl⟩
    go_wp2_with fail
    go_ret2
    rw [HQ.out]
    exact ⟨by simp; omega, hb⟩

theorem nF_bound (q : Int × UInt8) (c : UInt8) (k : Int) (h : -k ≤ q.1 ∧ q.1 ≤ k) : -(k + 1) ≤ (nF q c).1.1 ∧ (nF q c).1.1 ≤ k + 1 := by
  unfold nF
  cases eqB q.2 40 && eqB c 42 <;> cases eqB q.2 42 && eqB c 41 <;> simp <;> omega

set_option maxHeartbeats 1000000 in
theorem note_any (s : ByteArray) (hs : s.size ≤ 1000000) (at0 : Nat) (ha : at0 < s.size) (w : World) :
    Calls Tryz.prog 104 #[.string s, .int .i64 at0] w fun e w' => e = .returned (.tuple #[.int .i64 (noteN (s.data.toList.drop at0)).1, .int .i64 ((at0 + (noteN (s.data.toList.drop at0)).2 : Nat) : Int)]) ∧ Below w.heap.size w w' := by
  have hl := passN_le nF (0, 0) (s.data.toList.drop at0)
  have hlen : (s.data.toList.drop at0).length = s.size - at0 := by rw [List.length_drop, data_len]
  rw [hlen] at hl
  obtain ⟨E, hE⟩ : ∃ E, E = at0 + passN nF (0, 0) (s.data.toList.drop at0) := ⟨_, rfl⟩
  have hEs : E ≤ s.size := by omega
  have hE1 : at0 ≤ E := by omega
  have HQ : noteN (s.data.toList.drop at0) = bif E == s.size then (3, E - at0) else (2, E - at0 + 1) := by
    unfold noteN
    simp only
    rw [hlen]
    have : (passN nF (0, 0) (s.data.toList.drop at0) == s.size - at0) = (E == s.size) := by rw [Bool.eq_iff_iff]; simp; omega
    rw [this]
    cases E == s.size
    · simp only [cond_false]; rw [show passN nF (0, 0) (s.data.toList.drop at0) = E - at0 from by omega]
    · simp only [cond_true]; rw [show passN nF (0, 0) (s.data.toList.drop at0) = E - at0 from by omega]
  have HP : Calls Tryz.prog 101 #[.string s, .int .i64 at0, .func (.func 120) #[] #[.pointer (some ⟨w.heap.size + 1, 0, none⟩), .pointer (some ⟨w.heap.size, 0, none⟩)]] ((w.alloc (.cells #[.int .i64 0] 3)).alloc (.cells #[.int .u8 0] 5)) fun e w' => e = .returned (.int .i64 (E : Int)) ∧ Below w.heap.size w w' := by
    have h1 : ((w.alloc (.cells #[.int .i64 0] 3)).alloc (.cells #[.int .u8 0] 5)).heap[w.heap.size + 1]? = some (.cells #[.int .u8 0] 5 (0, 0)) := by
      have := heap_alloc_new (w.alloc (.cells #[.int .i64 0] 3)) (.cells #[.int .u8 0] 5)
      simpa using this
    have h0 : ((w.alloc (.cells #[.int .i64 0] 3)).alloc (.cells #[.int .u8 0] 5)).heap[w.heap.size]? = some (.cells #[.int .i64 0] 3 (0, 0)) := by
      rw [heap_alloc_old _ _ (by simp)]; exact heap_alloc_new w _
    refine (pass_any nF (fun k q w' => (-(k : Int) ≤ q.1 ∧ q.1 ≤ k) ∧ w'.heap[w.heap.size]? = some (.cells #[.int .i64 q.1] 3 (0, 0)) ∧ w'.heap[w.heap.size + 1]? = some (.cells #[.int .u8 (q.2.toNat : Int)] 5 (0, 0)) ∧ Below w.heap.size w w') 120 #[.pointer (some ⟨w.heap.size + 1, 0, none⟩), .pointer (some ⟨w.heap.size, 0, none⟩)] cf34 s hs ?_ at0 (by omega) (0, 0) _ ⟨⟨by simp, by simp⟩, h0, h1, ((Below.refl _ _).alloc (Nat.le_refl _) _).alloc (by simp) _⟩).mono ?_
    · rintro k ⟨d, g⟩ c w' hk ⟨hb, hd, hg, hbe⟩
      refine (n1_any d g c w.heap.size w' hd hg (by have := hb.1; simp at this; omega) (by have := hb.2; simp at this; omega)).mono ?_
      rintro e w1 ⟨rfl, h1, h2, h3⟩
      exact ⟨rfl, by have := nF_bound (d, g) c k hb; simpa using this, h1, h2, hbe.trans h3⟩
    · rintro e w' ⟨rfl, k, q, _, _, _, hb⟩
      exact ⟨by rw [hE], hb⟩
  have hmf : ∀ (fn : Fn) (first cap : Array Value) (w : World), (Instr.makeFunc fn first cap).run Tryz.prog w = .ok (.func fn first cap) w := fun _ _ _ _ => rfl
  clear hE hl hlen
  cases he : (E == s.size) <;> rw [he] at HQ
  · have hne : ¬ E = s.size := by simpa using he
    have hlt : E < s.size := by omega
    have HQ := Lib.hid HQ
    clear he hne
    go_enter Tryz.func104, Tryz.ntmps104
    go_wp2_with fail
    refine HP.mono ?_
    rintro e w1 ⟨rfl, hb⟩
    go_wp2_with fail
    go_ret2
    rw [HQ.out]
    exact ⟨by simp; omega, hb⟩
  · have hle : s.size = E := by simp at he; omega
    have HQ := Lib.hid HQ
    clear he
    go_enter Tryz.func104, Tryz.ntmps104
    go_wp2_with fail
    refine HP.mono ?_
    rintro e w1 ⟨rfl, hb⟩
    go_wp2_with fail
    go_ret2
    rw [HQ.out]
    exact ⟨by simp; omega, hb⟩

theorem bsOf_data (p : ByteArray) : bsOf p.data.toList = p := by unfold bsOf; cases p; simp
theorem plainN_at (p : ByteArray) (h : 0 < p.size) : plainN p.data.toList = bif digB p[0] then (bif passN (pureF digB) () p.data.toList == p.size then 4 else 3) else bif kindN p == 0 then 3 else kindN p := by
  have e : p.data.toList = p[0] :: p.data.toList.drop 1 := by have := drop_at p 0 h; simpa using this
  unfold plainN
  rw [bsOf_data, data_len]
  rw [e]
set_option maxHeartbeats 1000000 in
theorem plain_any (p : ByteArray) (hs : p.size ≤ 1000000) (h : 0 < p.size) (w : World) (hk : Kw w) :
    Calls Tryz.prog 106 #[.string p] w fun e w' => e = .returned (.int .i64 (plainN p.data.toList)) ∧ w = w' := by
  have HK := kind_any p w hk (by omega)
  have HD := digit_any p[0] w
  have HP := pass_pure digB 121 cf35 digit_any p hs 0 (by omega) w
  rw [List.drop_zero, Nat.zero_add] at HP
  have HN := plainN_at p h
  have hl := passN_le (pureF digB) () p.data.toList
  rw [data_len] at hl
  clear hk
  generalize passN (pureF digB) () p.data.toList = m at *
  generalize kindN p = K at *
  cases hd : digB p[0] <;> rw [hd] at HD HN <;> clear hd
  · cases hz : (K == 0) <;> rw [hz] at HN
    all_goals
      have HN := Lib.hid HN
      go_enter Tryz.func106, Tryz.ntmps106
      go_wp2_with fail
      refine HK.mono ?_
      rintro e w1 ⟨rfl, rfl⟩
      go_wp2_with fail
      refine HD.mono ?_
      rintro e w1 ⟨rfl, rfl⟩
      go_wp2_with fail
      go_ret
      exact ⟨ret_int HN.out.symm, rfl⟩
  · cases hz : (m == p.size) <;> rw [hz] at HN
    · have hne : ¬ m = p.size := by simpa using hz
      have HN := Lib.hid HN
      clear hz
      go_enter Tryz.func106, Tryz.ntmps106
      go_wp2_with fail
      refine HK.mono ?_
      rintro e w1 ⟨rfl, rfl⟩
      go_wp2_with fail
      refine HD.mono ?_
      rintro e w1 ⟨rfl, rfl⟩
      go_wp2_with fail
      refine HP.mono ?_
      rintro e w1 ⟨rfl, rfl⟩
      go_wp2_with fail
      go_ret
      exact ⟨ret_int HN.out.symm, rfl⟩
    · have hne : m = p.size := by simpa using hz
      have HN := Lib.hid HN
      clear hz
      subst hne
      go_enter Tryz.func106, Tryz.ntmps106
      go_wp2_with fail
      refine HK.mono ?_
      rintro e w1 ⟨rfl, rfl⟩
      go_wp2_with fail
      refine HD.mono ?_
      rintro e w1 ⟨rfl, rfl⟩
      go_wp2_with fail
      refine HP.mono ?_
      rintro e w1 ⟨rfl, rfl⟩
      go_wp2_with fail
      go_ret
      exact ⟨ret_int HN.out.symm, rfl⟩
end Go.Proofs.YtkjgkchdkeggoaaGreatDoor
