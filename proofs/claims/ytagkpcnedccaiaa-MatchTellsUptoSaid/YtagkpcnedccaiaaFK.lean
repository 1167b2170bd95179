/-
  The bindings behind a link (behind), all of them, and Since.; All bindings of an environment, and Since.
-/
import Derived.Test.YtagkpcnedccaiaaFJ
import Derived.LaidEql
namespace Go.Proofs.Ytagkpcnedccaiaa
open Go.RowKit
set_option maxRecDepth 20000
set_option linter.unusedVariables false
set_option linter.unusedSimpArgs false

theorem addr_add (g j : Nat) : ((⟨g, 0, none⟩ : Addr).add j) = ⟨g, j, none⟩ := by unfold Addr.add; split <;> simp_all
theorem news6 (w : World) (b : Bi) : ∀ j u, b.cells[j]? = some u → (w.alloc (.cells #[.int .i64 b.k.1, .string b.k.2, .int .i64 b.dc, .int .i64 b.via, .pointer b.pa, .pointer b.pm] 85)).cell? ((⟨w.heap.size, 0, none⟩ : Addr).add j) = some u := fun j u h => by
 rw [addr_add, cellH (heap_new w _) j, ← h]
 match j with
 | 0 => rfl
 | 1 => rfl
 | 2 => rfl
 | 3 => rfl
 | 4 => rfl
 | 5 => rfl
 | j + 6 => simp [Bi.cells]
theorem one6 (b : Bi) : ∀ u ∈ b.cells, u.oneCell' = true := fun u hu => by
 simp only [Bi.cells, List.mem_cons, List.not_mem_nil, or_false] at hu
 rcases hu with rfl | rfl | rfl | rfl | rfl | rfl <;> rfl
theorem own_snoc {w : World} {base : Nat} {v : Value} {l : List Bi} {b : Bi} (h : w.ownsRow base 85 6 v (l.length + 1) (bcells l ++ b.cells)) : OwnB w base v (l ++ [b]) := by
 unfold OwnB
 rw [bcells_append, List.length_append]
 simpa [bcells] using h
theorem never39 (q : Option Addr) (w : World) : Calls Try.prog 70 #[.pointer q] w fun e w' => e = .returned (.bool false) ∧ w = w' := by
 go_enter Try.func70, Try.ntmps70
 go_wp2
 go_ret
 exact ⟨rfl, rfl⟩
theorem equalIn_ptr (d : Nat) {tp te : TypeId} {j : TypeInfo} (w : World) (a b : Nat) (ca cb : Array Value) (ta tb : TypeId) (hp : Try.prog.underlying tp = some (.pointer te)) (hte : Try.prog.info? te = some j) (hsz : j.size ≠ 0) (ha : w.heap[a]? = some (.cells ca ta (0, 0))) (hb : w.heap[b]? = some (.cells cb tb (0, 0))) :
  (Op.equalIn (d + 1) tp (.pointer (at0 a)) (.pointer (at0 b))).run Try.prog w = .ok (decide (a = b)) w := by
 by_cases hab : a = b
 ·subst hab
  simp [at0, Op.equalIn, run_underlying hp, sizeOf, typeInfo, hte, hsz, run_sameAddr_same]
 ·have hne : (⟨a, 0, none⟩ : Addr) ≠ ⟨b, 0, none⟩ := fun e => hab (by injection e)
  simp [at0, Op.equalIn, run_underlying hp, sizeOf, typeInfo, hte, hsz, run_sameAddr_other w hne ha hb, hab]
theorem eql_ptr {tp te : TypeId} {j : TypeInfo} (w : World) (a b : Nat) (ca cb : Array Value) (ta tb : TypeId) (hp : Try.prog.underlying tp = some (.pointer te)) (hte : Try.prog.info? te = some j) (hsz : j.size ≠ 0) (ha : w.heap[a]? = some (.cells ca ta (0, 0))) (hb : w.heap[b]? = some (.cells cb tb (0, 0))) :
  (binOp .eql tp (.pointer (at0 a)) (.pointer (at0 b))).run Try.prog w = .ok (.bool (decide (a = b))) w := by
 simp only [binOp]
 simp [Op.equal, Op.maxDepth, equalIn_ptr 9999 w a b ca cb ta tb hp hte hsz ha hb]
theorem neq_ptr {tp te : TypeId} {j : TypeInfo} (w : World) (a b : Nat) (ca cb : Array Value) (ta tb : TypeId) (hp : Try.prog.underlying tp = some (.pointer te)) (hte : Try.prog.info? te = some j) (hsz : j.size ≠ 0) (ha : w.heap[a]? = some (.cells ca ta (0, 0))) (hb : w.heap[b]? = some (.cells cb tb (0, 0))) :
  (binOp .neq tp (.pointer (at0 a)) (.pointer (at0 b))).run Try.prog w = .ok (.bool (!decide (a = b))) w := by
 simp only [binOp]
 simp [Op.equal, Op.maxDepth, equalIn_ptr 9999 w a b ca cb ta tb hp hte hsz ha hb]
theorem info62 : ∃ j, Try.prog.info? 100 = some j ∧ j.size ≠ 0 := ⟨_, rfl, by decide⟩
theorem info57 : ∃ j, Try.prog.info? 98 = some j ∧ j.size ≠ 0 := ⟨_, rfl, by decide⟩
set_option maxHeartbeats 8000000 in
theorem behind39 (w : World) (p : Option Addr) (l : List Bd) (m : Nat) (h : EnvAt w p l) (hm : m ≤ l.length) (hn : l.length ≤ 900000)
  (hs : ∀ i b, i ≤ m → l[i]? = some b → ∀ W, Below w.heap.size w W → Calls Try.prog 70 #[.pointer (at0 b.lk)] W fun e w' => e = .returned (.bool (decide (i = m))) ∧ W = w') :
  Calls Try.prog 69 #[.pointer p, .func (.func 70) #[] #[]] w fun e w' => ∃ v, e = .returned v ∧ OwnB w' w.heap.size v (((l.take m).map (·.bi)).reverse) ∧ Below w.heap.size w w' := by
 have hcf : ∀ args W, Sem.run Try.prog (callFunc 70 args) W = .ok (.enter 70 args) W := fun args W => cf_enter Try.func70 (by kernel_rfl) (by kernel_rfl) args W
 obtain ⟨i52, hi52, hy0, hy1, hy2⟩ : ∃ i52, Try.prog.info? 85 = some i52 ∧ i52.zero = some (.agg #[.int .i64 0, .string ByteArray.empty, .int .i64 0, .int .i64 0, .pointer none, .pointer none]) ∧ i52.size = 6 ∧ i52.bytes = 56 := by
  refine ⟨_, rfl, ?_, ?_, ?_⟩ <;> kernel_rfl
 have HY := Lib.hid (youngest_any w p l h)
 obtain ⟨T, hT⟩ : ∃ T, T = top l := ⟨_, rfl⟩
 rw [← hT] at HY
 have HT := Lib.hid hT
 clear hT
 have HS := Lib.hid hs
 have HLK := Lib.hid h.lk
 have HN := Lib.hid hn
 have HM := Lib.hid hm
 clear h hs hm hn
 go_enter Try.func69, Try.ntmps69
 go_wp2_with (go_at_call 74; refine HY.out.mono ?_; rintro e wp ⟨rfl, rfl⟩)
 go_loopg [5, 6] (m + 1) (fun gk v q wr => ∃ k : Nat, k ≤ m ∧ gk + k = m + 1 ∧ q = .pointer (top (l.drop k)) ∧ Hid (OwnB wr w.heap.size v ((l.take k).map (·.bi))) ∧ Hid (Below w.heap.size w wr))
 case atStart => exact ⟨0, by omega, by omega, by rw [HT.out]; rfl, Lib.hid ⟨rfl, .inl ⟨rfl, rfl⟩⟩, Lib.hid (Below.refl _ _)⟩
 case round =>
  obtain ⟨k, hk, hg, rfl, HO, HB⟩ := hrel
  have HFIN : Hid (k = m → ∀ wz, wz = wr → Calls Try.prog 75 #[u5] wz fun e w' => e = .returned (.tuple #[]) ∧ OwnB w' w.heap.size u5 (((l.take m).map (·.bi)).reverse) ∧ Below w.heap.size w w') := Lib.hid fun hkm wz hwz => by
   rw [hwz]
   have hO := HO.out
   rw [hkm] at hO
   refine (reverse_any wr w.heap.size u5 _ hO (by have := HN.out; simp; omega)).mono ?_
   rintro e w' ⟨h1, h2, _, _, h5⟩
   exact ⟨h1, h2, HB.out.trans h5⟩
  cases hd : l.drop k with
  | nil =>
   have hkm : k = m := by
    have := congrArg List.length hd
    have := HM.out
    simp at *; omega
   simp only [top]
   have HF := Lib.hid (HFIN.out hkm)
   clear hkm HFIN
   go_wp2_with (go_at_call 75; refine (HF.out _ rfl).mono ?_; rintro e w2 ⟨rfl, ho2, hb2⟩; have HO2 := Lib.hid ho2; have HB2 := Lib.hid hb2; clear ho2 hb2)
   go_ret
   exact ⟨_, rfl, HO2.out, HB2.out⟩
  | cons x r =>
   have hkl : k < l.length := by
    have := congrArg List.length hd
    simp at this; omega
   have hx : l[k]? = some x := by
    have := List.getElem?_drop (xs := l) (i := k) (j := 0)
    rw [hd] at this
    simpa using this.symm
   have HC := Lib.hid (HS.out k x hk hx wr HB.out)
   simp only [top, at0] at HC ⊢
   by_cases hkm : k = m
   ·rw [show decide (k = m) = true by simp [hkm]] at HC
    have HF := Lib.hid (HFIN.out hkm)
    clear hkm HFIN hx hd
    go_wp2_with (first | (go_at_call 70; refine HC.out.mono ?_; rintro e wp ⟨rfl, rfl⟩) | (go_at_call 75; refine (HF.out _ rfl).mono ?_; rintro e w2 ⟨rfl, ho2, hb2⟩; have HO2 := Lib.hid ho2; have HB2 := Lib.hid hb2; clear ho2 hb2))
    go_ret
    exact ⟨_, rfl, HO2.out, HB2.out⟩
   ·rw [show decide (k = m) = false by simp [hkm]] at HC
    obtain ⟨px, hlx⟩ := (Lk.step HB.out HLK.out).mem x (List.mem_of_getElem? hx)
    have hlk := (Lk.step HB.out HLK.out).drop k
    rw [hd] at hlk
    obtain ⟨c0, c1, c2, c3, c4, c5, c6⟩ := hlk.1.out
    have hlx2 := hlk.1
    have hrow := HO.out
    unfold OwnB at hrow
    have hbz := HB.out.size
    have hlen : ((l.take k).map (·.bi)).length ≤ 900000 := by have := HN.out; simp; omega
    have hxl : x.lk < wr.heap.size := heap_lt hlx2
    have hdd : l.drop (k + 1) = r := by rw [← List.tail_drop, hd]; rfl
    have HDD := Lib.hid hdd
    have HTK : Hid ((l.take (k + 1)).map (·.bi) = (l.take k).map (·.bi) ++ [x.bi]) := Lib.hid (by rw [List.take_add_one, hx]; simp)
    have HLX := Lib.hid hlx2
    have HD := Lib.hid hd
    have HNW := Lib.hid (news6 wr x.bi)
    have hbx : (bcells ((l.take k).map (·.bi))).length = ((l.take k).map (·.bi)).length * 6 := bcells_length _
    clear hx hd hlk hdd hlx hlx2 HFIN
    go_wp2_with (first
     | (go_at_call 70; refine HC.out.mono ?_; rintro e wp ⟨rfl, rfl⟩)
     | (at_builtin; refine wpList_append_own _ rfl _ _ 91 rfl w.heap.size 85 i52 _ 6 56 Try.underlying91 hi52 hy0 hy1 hy2 rfl (by decide) _ _ _ rfl (World.ownsRow.alloc hrow _) ⟨_, 0, none⟩ 1 1 x.bi.cells rfl rfl HNW.out (one6 x.bi) (by unfold maxLen; omega) (by omega) (by simp; omega) ?_; intro v' w3 hown' hg3 hnil3; have HO' := Lib.hid (own_snoc hown'); have HG3 := Lib.hid ((HB.out.alloc hbz _).grown hg3 (by simp; omega) (fun j hj => (World.ownsRow.lt hrow j hj).1)); have hlk3 := (Lk.step HG3.out HLK.out).drop k; rw [HD.out] at hlk3; have d6 := hlk3.1.out.c6; clear hlk3 hown' hg3 hnil3)
     | go_in)
    go_roundg (gk - 1)
    case rel => exact ⟨k + 1, by omega, by omega, by rw [HDD.out], Lib.hid (by rw [HTK.out]; exact HO'.out), HG3⟩
    case measure => omega

end Go.Proofs.Ytagkpcnedccaiaa

namespace Go.Proofs.Ytagkpcnedccaiaa
open Go.RowKit
set_option maxRecDepth 20000
set_option linter.unusedVariables false
set_option linter.unusedSimpArgs false

/-- What a call that makes a row of bindings leaves. -/
def RowPost (w : World) (l : List Bi) (e : Ending) (w' : World) : Prop := ∃ v, e = .returned v ∧ OwnB w' w.heap.size v l ∧ Below w.heap.size w w'
theorem all_any (w : World) (p : Option Addr) (l : List Bd) (h : EnvAt w p l) (hn : l.length ≤ 900000) : Calls Try.prog 58 #[.pointer p] w (RowPost w ((l.map (·.bi)).reverse)) := by
 have HB := Lib.hid (behind39 w p l l.length h (Nat.le_refl _) hn (fun i b hi hb W hW => by
  have hil : i < l.length := (List.getElem?_eq_some_iff.1 hb).1
  rw [show decide (i = l.length) = false by simp; omega]
  exact never39 _ W))
 rw [List.take_length] at HB
 clear h hn
 go_enter Try.func58, Try.ntmps58
 go_wp2_with (go_at_call 69; refine HB.out.mono ?_; rintro e w2 ⟨v, rfl, ho2, hb2⟩; have HO2 := Lib.hid ho2; have HB2 := Lib.hid hb2; clear ho2 hb2)
 go_ret
 exact ⟨_, rfl, HO2.out, HB2.out⟩

def tb : List Bd → Option Nat
 | [] => none
 | b :: _ => some b.lk
theorem top_tb (l : List Bd) : top l = (tb l).bind at0 := by cases l <;> rfl
end Go.Proofs.Ytagkpcnedccaiaa
