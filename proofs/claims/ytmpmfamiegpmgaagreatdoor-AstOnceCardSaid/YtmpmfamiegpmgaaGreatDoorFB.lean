/-
  The bytes that pass asks of, and the two closures that remember.; quoted, note, plain, by the way of the program.; token: the token at a place.; each: hands on the tokens, for any function that takes them.; those: the tokens whose kinds are as asked.; Scan, Words, part, Bad, First.; part, Bad, First.; Rows of tokens as they lie; kinds, Ints, No.
-/
import Derived.Test.YtmpmfamiegpmgaaGreatDoorFA
import Derived.Lib.QuietBelow
import Derived.OneCell
import Derived.Deep.AppendLies
import Derived.Laws.OwnMore
import Derived.OwnWalk
import Derived.Deep.RegionHeld3
namespace Go.Proofs.YtmpmfamiegpmgaaGreatDoor
open Go.RowKit
set_option linter.unusedVariables false
set_option linter.unusedSimpArgs false

theorem blank_any (c:UInt8) (w:World):Calls Tryz.prog 260 #[.int .u8 (c.toNat:Int)] w fun e w'=>e=.returned (.bool (blankB c))∧w=w':=by
 have hc:=c.toNat_lt
 have HB:Hid (blankB c=(((c.toNat:Int) == 32) || ((c.toNat:Int) == 9) || ((c.toNat:Int) == 10) || ((c.toNat:Int) == 13))):=Lib.hid rfl
 go_enter Tryz.func260,Tryz.ntmps260
 go_wp2
 all_goals
  go_ret
  exact ⟨ret_bool (by simp [HB.out, *]),rfl⟩
theorem digit_any (c:UInt8) (w:World):Calls Tryz.prog 295 #[.int .u8 (c.toNat:Int)] w fun e w'=>e=.returned (.bool (digB c))∧w=w':=by
 have hc:=c.toNat_lt
 by_cases h1:48≤c.toNat
 ·have h:Hid (digB c=decide ((c.toNat:Int)≤57)):=Lib.hid (by unfold digB; rw [Bool.eq_iff_iff]; simp; omega)
  go_enter Tryz.func295,Tryz.ntmps295
  go_wp2
  go_ret
  exact ⟨ret_bool h.out.symm,rfl⟩
 ·have h:Hid (digB c=false):=Lib.hid (by unfold digB; simp; omega)
  go_enter Tryz.func295,Tryz.ntmps295
  go_wp2
  go_ret
  exact ⟨ret_bool h.out.symm,rfl⟩
theorem line_any (c:UInt8) (w:World):Calls Tryz.prog 292 #[.int .u8 (c.toNat:Int)] w fun e w'=>e=.returned (.bool (lineB c))∧w=w':=by
 have hc:=c.toNat_lt
 have HB:Hid (lineB c=!((c.toNat:Int) == 10)):=Lib.hid rfl
 go_enter Tryz.func292,Tryz.ntmps292
 go_wp2
 all_goals
  go_ret
  exact ⟨ret_bool (by rw [HB.out]; simp [*,bne]),rfl⟩
theorem lsign_any (c:UInt8) (w:World):Calls Tryz.prog 267 #[.int .u8 (c.toNat:Int)] w fun e w'=>e=.returned (.bool (signB c))∧w=w':=by
 have hc:=c.toNat_lt
 have HS:Hid (signB c=decide (0≤Lib.indexByte signL c)):=Lib.hid (Lib.contains_iff_indexByte signL c)
 have H1:∀ w,Calls Tryz.prog 155 #[.string ⟨#[33,37,38,36,35,43,45,47,58,60,61,62,63,64,92,126,96,94,124,42]⟩,.int .u8 (c.toNat:Int)] w fun e w'=>e=.returned (.int .i64 (Lib.indexByte signL c))∧w'=w:=fun w=>by
  have h:=Tryz.strings_IndexByte ⟨#[33,37,38,36,35,43,45,47,58,60,61,62,63,64,92,126,96,94,124,42]⟩ (c.toNat:Int) w
  have hcc:((c.toNat:Int)).toNat.toUInt8=c:=by simp
  rw [hcc] at h
  exact h
 generalize Lib.indexByte signL c=x at *
 go_enter Tryz.func267,Tryz.ntmps267
 go_wp2_with (go_at_call 155; refine (H1 _).mono ?_; rintro e w1 ⟨rfl,rfl⟩)
 go_ret
 exact ⟨ret_bool (by rw [HS.out]),rfl⟩
theorem lrest_any (c:UInt8) (w:World):Calls Tryz.prog 265 #[.int .u8 (c.toNat:Int)] w fun e w'=>e=.returned (.bool (restB c))∧w=w':=by
 have hc:=c.toNat_lt
 have H3:=fun w=>digit_any c w
 have HR:Hid (restB c=(lowB c || capB c || digB c || ((c.toNat:Int) == 95) || ((c.toNat:Int) == 39))):=Lib.hid rfl
 have HL:Hid (lowB c=(decide (97≤(c.toNat:Int)) && decide ((c.toNat:Int)≤122))):=Lib.hid (by unfold lowB; rw [Bool.eq_iff_iff]; simp; omega)
 have HC:Hid (capB c=(decide (65≤(c.toNat:Int)) && decide ((c.toNat:Int)≤90))):=Lib.hid (by unfold capB; rw [Bool.eq_iff_iff]; simp; omega)
 cases h3:digB c <;> simp only [h3] at H3 HR <;> clear h3
 all_goals
  go_enter Tryz.func265,Tryz.ntmps265
  go_wp2_with (go_at_call 295; refine (H3 _).mono ?_; rintro e w1 ⟨rfl,rfl⟩)
 all_goals
  go_ret
  refine ⟨ret_bool ?_,rfl⟩
  rw [HR.out,HL.out,HC.out,Bool.eq_iff_iff]
  simp [*]
  try omega

/-- quoted$1. -/
theorem q1_any (e:Bool) (c:UInt8) (B:Nat) (w:World) (h:w.heap[B]?=some (.cells #[.bool e] 4 (0,0))) :
  Calls Tryz.prog 291 #[.int .u8 (c.toNat:Int),.pointer (some ⟨B,0,none⟩)] w fun r w'=>r=.returned (.bool (qF e c).2)∧w'=w.setCell ⟨B,0,none⟩ (.bool (qF e c).1):=by
 have hc:=c.toNat_lt
 have hC:=cell_of_one h
 have hF:=free_of_one h
 clear h
 cases e
 ·have H1:Hid (qF false c=(((c.toNat:Int) == 92),!((c.toNat:Int) == 34) && !((c.toNat:Int) == 10))):=Lib.hid rfl
  go_enter Tryz.func291,Tryz.ntmps291
  go_wp2
  all_goals
   go_ret
   rw [H1.out]
   exact ⟨ret_bool (by simp [*,bne]),by simp [*]⟩
 ·have H1:Hid (qF true c=(false,((c.toNat:Int) == 34) || ((c.toNat:Int) == 92) || ((c.toNat:Int) == 110) || ((c.toNat:Int) == 116))):=Lib.hid rfl
  go_enter Tryz.func291,Tryz.ntmps291
  go_wp2
  all_goals
   go_ret
   rw [H1.out]
   exact ⟨ret_bool (by simp [*]),by simp [*]⟩
theorem two_one {w:World} {B:Nat} {x y u:Value} {s t:TypeId} (hd:w.heap[B]?=some (.cells #[x] s (0,0))) (hg:w.heap[B+1]?=some (.cells #[y] t (0,0))) :
  (w.setCell ⟨B+1,0,none⟩ u).heap[B]?=some (.cells #[x] s (0,0))∧(w.setCell ⟨B+1,0,none⟩ u).heap[B+1]?=some (.cells #[u] t (0,0))∧Below B w (w.setCell ⟨B+1,0,none⟩ u) :=
 ⟨(Below.heap_setCell _ _ _ _ (show B≠B+1 by omega)).trans hd,one_setCell hg,(Below.refl _ _).setCell (show B≤B+1 by omega) _⟩
theorem two_both {w:World} {B:Nat} {x y u v:Value} {s t:TypeId} (hd:w.heap[B]?=some (.cells #[x] s (0,0))) (hg:w.heap[B+1]?=some (.cells #[y] t (0,0))) :
  ((w.setCell ⟨B,0,none⟩ v).setCell ⟨B+1,0,none⟩ u).heap[B]?=some (.cells #[v] s (0,0))∧((w.setCell ⟨B,0,none⟩ v).setCell ⟨B+1,0,none⟩ u).heap[B+1]?=some (.cells #[u] t (0,0))∧Below B w ((w.setCell ⟨B,0,none⟩ v).setCell ⟨B+1,0,none⟩ u):=by
 have h:=two_one (w:=w.setCell ⟨B,0,none⟩ v) (B:=B) (u:=u) (one_setCell hd) ((Below.heap_setCell _ _ _ _ (show B+1≠B by omega)).trans hg)
 exact ⟨h.1,h.2.1,((Below.refl _ _).setCell (show B≤B by omega) _).trans h.2.2⟩
set_option maxHeartbeats 1000000 in
/-- note$1: what it captures: the byte ahead (B + 1), how deep (B). -/
theorem n1_any (d:Int) (g c:UInt8) (B:Nat) (w:World) (hd:w.heap[B]?=some (.cells #[.int .i64 d] 3 (0,0))) (hg:w.heap[B+1]?=some (.cells #[.int .u8 (g.toNat:Int)] 5 (0,0)))
  (h0:-1000000≤d) (h1:d≤1000000) :
  Calls Tryz.prog 294 #[.int .u8 (c.toNat:Int),.pointer (some ⟨B+1,0,none⟩),.pointer (some ⟨B,0,none⟩)] w fun r w'=>r=.returned (.bool (nF (d,g) c).2) ∧
   w'.heap[B]?=some (.cells #[.int .i64 (nF (d,g) c).1.1] 3 (0,0))∧w'.heap[B+1]?=some (.cells #[.int .u8 ((nF (d,g) c).1.2.toNat:Int)] 5 (0,0))∧Below B w w':=by
 have hc:=c.toNat_lt
 have hgt:=g.toNat_lt
 have hDC:=cell_of_one hd
 have hDF:=free_of_one hd
 have hGC:=cell_of_one hg
 have hGF:=free_of_one hg
 have HD:=Lib.hid hd
 have HG:=Lib.hid hg
 clear hd hg
 have HX:Hid (decide (1 < d)=decide (0 < d - 1)):=Lib.hid (decide_eq_decide.2 (by omega))
 have hne:(B:Nat)≠B+1:=by omega
 cases e1:((g.toNat:Int) == 40) <;> cases e2:((c.toNat:Int) == 42) <;> cases e3:((g.toNat:Int) == 42) <;> cases e4:((c.toNat:Int) == 41)
 all_goals
  have HN:Hid (nF (d,g) c=bif ((g.toNat:Int) == 40) && ((c.toNat:Int) == 42) then ((d+1,0),true) else bif ((g.toNat:Int) == 42) && ((c.toNat:Int) == 41) then ((d - 1,0),decide (0 < d - 1)) else ((d,c),true)):=Lib.hid rfl
  simp only [e1,e2,e3,e4,Bool.and_true,Bool.and_false,cond_true,cond_false] at HN
 all_goals
  go_enter Tryz.func294,Tryz.ntmps294
  go_wp2
  go_ret
  rw [HN.out]
  first
   | exact ⟨ret_bool rfl,two_one HD.out HG.out⟩
   | exact ⟨ret_bool rfl,two_both HD.out HG.out⟩
   | exact ⟨ret_bool HX.out,two_both HD.out HG.out⟩
end Go.Proofs.YtmpmfamiegpmgaaGreatDoor

namespace Go.Proofs.YtmpmfamiegpmgaaGreatDoor
open Go.RowKit
set_option linter.unusedVariables false
set_option linter.unusedSimpArgs false

theorem cf_enter {f:FuncId} {fn:Func} (hf:Tryz.prog.funcs[f]?=some fn) (hname:(fn.name == "runtime.NumGoroutine")=false) (hb:fn.body.isNone=false) (args:Array Value) (w:World) :
  Sem.run Tryz.prog (callFunc f args) w=.ok (.enter f args) w:=by
 have h1:fn.name ≠ "runtime.NumGoroutine":=by simpa using hname
 show (callFunc f args).run Tryz.prog w=.ok (.enter f args) w
 obtain ⟨c,hc⟩:∃ c,fn.body=some c:=by cases e:fn.body <;> simp_all
 simp [callFunc,hf,h1,hc]
theorem cf23 (args:Array Value) (w:World):Sem.run Tryz.prog (callFunc 260 args) w=.ok (.enter 260 args) w:=cf_enter Tryz.func260 (by kernel_rfl) (by kernel_rfl) args w
theorem cf28 (args:Array Value) (w:World):Sem.run Tryz.prog (callFunc 265 args) w=.ok (.enter 265 args) w:=cf_enter Tryz.func265 (by kernel_rfl) (by kernel_rfl) args w
theorem cf30 (args:Array Value) (w:World):Sem.run Tryz.prog (callFunc 267 args) w=.ok (.enter 267 args) w:=cf_enter Tryz.func267 (by kernel_rfl) (by kernel_rfl) args w
theorem cf31 (args:Array Value) (w:World):Sem.run Tryz.prog (callFunc 291 args) w=.ok (.enter 291 args) w:=cf_enter Tryz.func291 (by kernel_rfl) (by kernel_rfl) args w
theorem cf32 (args:Array Value) (w:World):Sem.run Tryz.prog (callFunc 292 args) w=.ok (.enter 292 args) w:=cf_enter Tryz.func292 (by kernel_rfl) (by kernel_rfl) args w
theorem cf34 (args:Array Value) (w:World):Sem.run Tryz.prog (callFunc 294 args) w=.ok (.enter 294 args) w:=cf_enter Tryz.func294 (by kernel_rfl) (by kernel_rfl) args w
theorem cf35 (args:Array Value) (w:World):Sem.run Tryz.prog (callFunc 295 args) w=.ok (.enter 295 args) w:=cf_enter Tryz.func295 (by kernel_rfl) (by kernel_rfl) args w

theorem pass_pure (g:UInt8→Bool) (n:Nat) (hcf:∀ args w,Sem.run Tryz.prog (callFunc n args) w=.ok (.enter n args) w) (hg:∀ c w,Calls Tryz.prog n #[.int .u8 (c.toNat:Int)] w fun e w'=>e=.returned (.bool (g c))∧w=w')
  (s:ByteArray) (hs:s.size≤1000000) (at0:Nat) (ha:at0≤s.size) (w:World) :
  Calls Tryz.prog 261 #[.string s,.int .i64 at0,.func (.func n) #[] #[]] w fun e w'=>e=.returned (.int .i64 ((at0+passN (pureF g) () (s.data.toList.drop at0):Nat)))∧w=w':=by
 refine (pass_any (pureF g) (fun _ _ w'=>w=w') n #[] hcf s hs ?_ at0 ha () w rfl).mono ?_
 ·rintro k q c w' hk rfl
  refine (hg c w).mono ?_
  rintro e w' ⟨rfl,rfl⟩
  exact ⟨rfl,rfl⟩
 ·rintro e w' ⟨rfl,k,q,h⟩
  exact ⟨rfl,h⟩

theorem headB_at (s:ByteArray) (k:Nat) (h:k < s.size) (n:Int):headB (s.data.toList.drop k) n=((s[k].toNat:Int) == n):=by
 rw [drop_at s k h]; rfl
theorem headB_end (s:ByteArray) (k:Nat) (h:s.size≤k) (n:Int):headB (s.data.toList.drop k) n=false:=by
 rw [List.drop_eq_nil_of_le (by rw [data_len]; exact h)]; rfl

set_option maxHeartbeats 1000000 in
theorem quoted_any (s:ByteArray) (hs:s.size≤1000000) (at0:Nat) (ha:at0 < s.size) (w:World) :
  Calls Tryz.prog 262 #[.string s,.int .i64 at0] w fun e w'=>e=.returned (.tuple #[.int .i64 (quoteN (s.data.toList.drop (at0+1))).1,.int .i64 ((at0+(quoteN (s.data.toList.drop (at0+1))).2:Nat):Int)])∧Below w.heap.size w w':=by
 have hl:=passN_le qF false (s.data.toList.drop (at0+1))
 rw [List.length_drop,data_len] at hl
 obtain ⟨E,hE⟩:∃ E,E=at0+1+passN qF false (s.data.toList.drop (at0+1)):=⟨_,rfl⟩
 have hEs:E≤s.size:=by omega
 have hE1:at0+1≤E:=by omega
 have hd:(s.data.toList.drop (at0+1)).drop (passN qF false (s.data.toList.drop (at0+1)))=s.data.toList.drop E:=by rw [List.drop_drop,hE]
 have HQ:quoteN (s.data.toList.drop (at0+1))=bif headB (s.data.toList.drop E) 34 then (5,E - at0+1) else (3,E - at0+passN (pureF lineB) () (s.data.toList.drop E)):=by
  unfold quoteN
  simp only
  rw [hd]
  cases headB (s.data.toList.drop E) 34
  ·simp only [cond_false]; rw [show passN qF false (s.data.toList.drop (at0+1))+1=E - at0 from by omega]
  ·simp only [cond_true]; rw [show passN qF false (s.data.toList.drop (at0+1))+2=E - at0+1 from by omega]
 have HP:Calls Tryz.prog 261 #[.string s,.int .i64 ((at0:Int)+1),.func (.func 291) #[] #[.pointer (some ⟨w.heap.size,0,none⟩)]] (w.alloc (.cells #[.bool false] 4)) fun e w'=>e=.returned (.int .i64 (E:Int))∧Below w.heap.size w w':=by
  have h0:(w.alloc (.cells #[.bool false] 4)).heap[w.heap.size]?=some (.cells #[.bool false] 4 (0,0)):=heap_alloc_new w _
  refine (show (at0:Int)+1=((at0+1:Nat):Int) from by omega) ▸ (pass_any qF (fun _ q w'=>w'.heap[w.heap.size]?=some (.cells #[.bool q] 4 (0,0))∧Below w.heap.size w w') 291 #[.pointer (some ⟨w.heap.size,0,none⟩)] cf31 s hs ?_ (at0+1) ha false _ ⟨h0,(Below.refl _ _).alloc (Nat.le_refl _) _⟩).mono ?_
  ·rintro k q c w' hk ⟨hc,hb⟩
   refine (q1_any q c w.heap.size w' hc).mono ?_
   rintro e w1 ⟨rfl,rfl⟩
   exact ⟨rfl,one_setCell hc,hb.setCell (Nat.le_refl _) _⟩
  ·rintro e w' ⟨rfl,k,q,hc,hb⟩
   exact ⟨by rw [hE],hb⟩
 have HL:=fun W=>pass_pure lineB 292 cf32 line_any s hs E hEs W
 have hmf:∀ (fn:Fn) (first cap:Array Value) (w:World),(Instr.makeFunc fn first cap).run Tryz.prog w=.ok (.func fn first cap) w:=fun _ _ _ _=>rfl
 have hl2:=passN_le (pureF lineB) () (s.data.toList.drop E)
 rw [List.length_drop,data_len] at hl2
 generalize passN (pureF lineB) () (s.data.toList.drop E)=m at *
 clear hE hd hl
 by_cases hlt:E < s.size
 ·rw [headB_at s E hlt] at HQ
  have HQ:=Lib.hid HQ
  cases he:((s[E].toNat:Int) == 34) <;> rw [he] at HQ
  ·go_enter Tryz.func262,Tryz.ntmps262
   go_wp2_with fail
   refine HP.mono ?_
   rintro e w1 ⟨rfl,hb⟩
   go_wp2_with fail
   refine (HL w1).mono ?_
   rintro e w2 ⟨rfl,rfl⟩
   go_wp2_with fail
   go_ret2
   rw [HQ.out]
   exact ⟨by simp; omega,hb⟩
  ·go_enter Tryz.func262,Tryz.ntmps262
   go_wp2_with fail
   refine HP.mono ?_
   rintro e w1 ⟨rfl,hb⟩
   go_wp2_with fail
   go_ret2
   rw [HQ.out]
   exact ⟨by simp; omega,hb⟩
 ·rw [headB_end s E (by omega)] at HQ
  have HQ:=Lib.hid HQ
  go_enter Tryz.func262,Tryz.ntmps262
  go_wp2_with fail
  refine HP.mono ?_
  rintro e w1 ⟨rfl,hb⟩
  go_wp2_with fail
  refine (HL w1).mono ?_
  rintro e w2 ⟨rfl,rfl⟩
  go_wp2_with fail
  go_ret2
  rw [HQ.out]
  exact ⟨by simp; omega,hb⟩

theorem nF_bound (q:Int × UInt8) (c:UInt8) (k:Int) (h:-k≤q.1∧q.1≤k):-(k+1)≤(nF q c).1.1∧(nF q c).1.1≤k+1:=by
 unfold nF
 cases eqB q.2 40 && eqB c 42 <;> cases eqB q.2 42 && eqB c 41 <;> simp <;> omega

set_option maxHeartbeats 1000000 in
theorem note_any (s:ByteArray) (hs:s.size≤1000000) (at0:Nat) (ha:at0 < s.size) (w:World) :
  Calls Tryz.prog 264 #[.string s,.int .i64 at0] w fun e w'=>e=.returned (.tuple #[.int .i64 (noteN (s.data.toList.drop at0)).1,.int .i64 ((at0+(noteN (s.data.toList.drop at0)).2:Nat):Int)])∧Below w.heap.size w w':=by
 have hl:=passN_le nF (0,0) (s.data.toList.drop at0)
 have hlen:(s.data.toList.drop at0).length=s.size - at0:=by rw [List.length_drop,data_len]
 rw [hlen] at hl
 obtain ⟨E,hE⟩:∃ E,E=at0+passN nF (0,0) (s.data.toList.drop at0):=⟨_,rfl⟩
 have hEs:E≤s.size:=by omega
 have hE1:at0≤E:=by omega
 have HQ:noteN (s.data.toList.drop at0)=bif E == s.size then (3,E - at0) else (2,E - at0+1):=by
  unfold noteN
  simp only
  rw [hlen]
  have:(passN nF (0,0) (s.data.toList.drop at0) == s.size - at0)=(E == s.size):=by rw [Bool.eq_iff_iff]; simp; omega
  rw [this]
  cases E == s.size
  ·simp only [cond_false]; rw [show passN nF (0,0) (s.data.toList.drop at0)=E - at0 from by omega]
  ·simp only [cond_true]; rw [show passN nF (0,0) (s.data.toList.drop at0)=E - at0 from by omega]
 have HP:Calls Tryz.prog 261 #[.string s,.int .i64 at0,.func (.func 294) #[] #[.pointer (some ⟨w.heap.size+1,0,none⟩),.pointer (some ⟨w.heap.size,0,none⟩)]] ((w.alloc (.cells #[.int .i64 0] 3)).alloc (.cells #[.int .u8 0] 5)) fun e w'=>e=.returned (.int .i64 (E:Int))∧Below w.heap.size w w':=by
  have h1:((w.alloc (.cells #[.int .i64 0] 3)).alloc (.cells #[.int .u8 0] 5)).heap[w.heap.size+1]?=some (.cells #[.int .u8 0] 5 (0,0)):=by
   have:=heap_alloc_new (w.alloc (.cells #[.int .i64 0] 3)) (.cells #[.int .u8 0] 5)
   simpa using this
  have h0:((w.alloc (.cells #[.int .i64 0] 3)).alloc (.cells #[.int .u8 0] 5)).heap[w.heap.size]?=some (.cells #[.int .i64 0] 3 (0,0)):=by
   rw [heap_alloc_old _ _ (by simp)]; exact heap_alloc_new w _
  refine (pass_any nF (fun k q w'=>(-(k:Int)≤q.1∧q.1≤k)∧w'.heap[w.heap.size]?=some (.cells #[.int .i64 q.1] 3 (0,0))∧w'.heap[w.heap.size+1]?=some (.cells #[.int .u8 (q.2.toNat:Int)] 5 (0,0))∧Below w.heap.size w w') 294 #[.pointer (some ⟨w.heap.size+1,0,none⟩),.pointer (some ⟨w.heap.size,0,none⟩)] cf34 s hs ?_ at0 (by omega) (0,0) _ ⟨⟨by simp,by simp⟩,h0,h1,((Below.refl _ _).alloc (Nat.le_refl _) _).alloc (by simp) _⟩).mono ?_
  ·rintro k ⟨d,g⟩ c w' hk ⟨hb,hd,hg,hbe⟩
   refine (n1_any d g c w.heap.size w' hd hg (by have:=hb.1; simp at this; omega) (by have:=hb.2; simp at this; omega)).mono ?_
   rintro e w1 ⟨rfl,h1,h2,h3⟩
   exact ⟨rfl,by have:=nF_bound (d,g) c k hb; simpa using this,h1,h2,hbe.trans h3⟩
  ·rintro e w' ⟨rfl,k,q,_,_,_,hb⟩
   exact ⟨by rw [hE],hb⟩
 have hmf:∀ (fn:Fn) (first cap:Array Value) (w:World),(Instr.makeFunc fn first cap).run Tryz.prog w=.ok (.func fn first cap) w:=fun _ _ _ _=>rfl
 clear hE hl hlen
 cases he:(E == s.size) <;> rw [he] at HQ
 ·have hne:¬ E=s.size:=by simpa using he
  have hlt:E < s.size:=by omega
  have HQ:=Lib.hid HQ
  clear he hne
  go_enter Tryz.func264,Tryz.ntmps264
  go_wp2_with fail
  refine HP.mono ?_
  rintro e w1 ⟨rfl,hb⟩
  go_wp2_with fail
  go_ret2
  rw [HQ.out]
  exact ⟨by simp; omega,hb⟩
 ·have hle:s.size=E:=by simp at he; omega
  have HQ:=Lib.hid HQ
  clear he
  go_enter Tryz.func264,Tryz.ntmps264
  go_wp2_with fail
  refine HP.mono ?_
  rintro e w1 ⟨rfl,hb⟩
  go_wp2_with fail
  go_ret2
  rw [HQ.out]
  exact ⟨by simp; omega,hb⟩

theorem bsOf_data (p:ByteArray):bsOf p.data.toList=p:=by unfold bsOf; cases p; simp
theorem plainN_at (p:ByteArray) (h:0 < p.size):plainN p.data.toList=bif digB p[0] then (bif passN (pureF digB) () p.data.toList == p.size then 4 else 3) else bif kindN p == 0 then 3 else kindN p:=by
 have e:p.data.toList=p[0] :: p.data.toList.drop 1:=by have:=drop_at p 0 h; simpa using this
 unfold plainN
 rw [bsOf_data,data_len]
 rw [e]
set_option maxHeartbeats 1000000 in
theorem plain_any (p:ByteArray) (hs:p.size≤1000000) (h:0 < p.size) (w:World) (hk:Kw w) :
  Calls Tryz.prog 266 #[.string p] w fun e w'=>e=.returned (.int .i64 (plainN p.data.toList))∧w=w':=by
 have HK:=kind_any p w hk (by omega)
 have HD:=digit_any p[0] w
 have HP:=pass_pure digB 295 cf35 digit_any p hs 0 (by omega) w
 rw [List.drop_zero,Nat.zero_add] at HP
 have HN:=plainN_at p h
 have hl:=passN_le (pureF digB) () p.data.toList
 rw [data_len] at hl
 clear hk
 generalize passN (pureF digB) () p.data.toList=m at *
 generalize kindN p=K at *
 cases hd:digB p[0] <;> rw [hd] at HD HN <;> clear hd
 ·cases hz:(K == 0) <;> rw [hz] at HN
  all_goals
   have HN:=Lib.hid HN
   go_enter Tryz.func266,Tryz.ntmps266
   go_wp2_with fail
   refine HK.mono ?_
   rintro e w1 ⟨rfl,rfl⟩
   go_wp2_with fail
   refine HD.mono ?_
   rintro e w1 ⟨rfl,rfl⟩
   go_wp2_with fail
   go_ret
   exact ⟨ret_int HN.out.symm,rfl⟩
 ·cases hz:(m == p.size) <;> rw [hz] at HN
  ·have hne:¬ m=p.size:=by simpa using hz
   have HN:=Lib.hid HN
   clear hz
   go_enter Tryz.func266,Tryz.ntmps266
   go_wp2_with fail
   refine HK.mono ?_
   rintro e w1 ⟨rfl,rfl⟩
   go_wp2_with fail
   refine HD.mono ?_
   rintro e w1 ⟨rfl,rfl⟩
   go_wp2_with fail
   refine HP.mono ?_
   rintro e w1 ⟨rfl,rfl⟩
   go_wp2_with fail
   go_ret
   exact ⟨ret_int HN.out.symm,rfl⟩
  ·have hne:m=p.size:=by simpa using hz
   have HN:=Lib.hid HN
   clear hz
   subst hne
   go_enter Tryz.func266,Tryz.ntmps266
   go_wp2_with fail
   refine HK.mono ?_
   rintro e w1 ⟨rfl,rfl⟩
   go_wp2_with fail
   refine HD.mono ?_
   rintro e w1 ⟨rfl,rfl⟩
   go_wp2_with fail
   refine HP.mono ?_
   rintro e w1 ⟨rfl,rfl⟩
   go_wp2_with fail
   go_ret
   exact ⟨ret_int HN.out.symm,rfl⟩
end Go.Proofs.YtmpmfamiegpmgaaGreatDoor

namespace Go.Proofs.YtmpmfamiegpmgaaGreatDoor
open Go.RowKit
set_option linter.unusedVariables false
set_option linter.unusedSimpArgs false

theorem prefix_at (s:ByteArray) (a:Nat) (h:a < s.size):Lib.hasPrefix (s.extract a s.size).data.toList [40,42]=(eqB s[a] 40 && headB (s.data.toList.drop (a+1)) 42):=by
 have e1:(s.extract a s.size).data.toList=s.data.toList.drop a:=by
  rw [Lib.extract_data,List.take_of_length_le (by rw [List.length_drop,data_len]; omega)]
 rw [e1,drop_at s a h]
 cases hr:s.data.toList.drop (a+1) with
 | nil=>simp [headB,Lib.hasPrefix,List.isPrefixOf]
 | cons d r =>
  unfold headB eqB Lib.hasPrefix
  simp only [List.isPrefixOf,Bool.and_true]
  rw [show ((40:UInt8) == s[a])=((s[a].toNat:Int) == 40) from by rw [Bool.eq_iff_iff]; simp only [beq_iff_eq,u8_eq]; constructor <;> intro h <;> exact h.symm]
  rw [show ((42:UInt8) == d)=((d.toNat:Int) == 42) from by rw [Bool.eq_iff_iff]; simp only [beq_iff_eq,u8_eq]; constructor <;> intro h <;> exact h.symm]
theorem extract_drop (s:ByteArray) (a n:Nat):(s.extract a (a+n)).data.toList=(s.data.toList.drop a).take n:=by
 rw [Lib.extract_data,show a+n - a=n from by omega]
theorem tokN_at (s:ByteArray) (a:Nat) (h:a < s.size):tokN (s.data.toList.drop a) =
  bif blankB s[a] then (1,passN (pureF blankB) () (s.data.toList.drop a))
  else bif ((s[a].toNat:Int) == 34) then quoteN (s.data.toList.drop (a+1))
  else bif Lib.hasPrefix (s.extract a s.size).data.toList [40,42] then noteN (s.data.toList.drop a)
  else bif restB s[a] then (plainN (s.extract a (a+passN (pureF restB) () (s.data.toList.drop a))).data.toList,passN (pureF restB) () (s.data.toList.drop a))
  else bif signB s[a] then (plainN (s.extract a (a+passN (pureF signB) () (s.data.toList.drop a))).data.toList,passN (pureF signB) () (s.data.toList.drop a))
  else (plainN (s.extract a (a+1)).data.toList,1):=by
 rw [prefix_at s a h,extract_drop,extract_drop,extract_drop,drop_at s a h]
 rfl

theorem token_end (s:ByteArray) (w:World) (hs:s.size≤1000000) :
  Calls Tryz.prog 225 #[.string s,.int .i64 s.size] w fun e w'=>e=.returned (.agg #[.int .i64 0,.int .i64 s.size,.int .i64 s.size])∧Below w.heap.size w w':=by
 go_enter Tryz.func225,Tryz.ntmps225
 go_wp2
 go_returns
 exact ⟨rfl,(Below.refl _ _).alloc (Nat.le_refl _) _⟩
/-- What token answers. -/
def tokV (a:Nat) (t:Int × Nat):Value:=.agg #[.int .i64 t.1,.int .i64 a,.int .i64 ((a+t.2:Nat):Int)]
theorem Kw.alloc {w:World} (h:Kw w) (o:Obj):Kw (w.alloc o):=h.step ((Below.refl _ _).alloc (Nat.le_refl _) o)
theorem slice_at (s:ByteArray) (a n:Nat) (h:a+n≤s.size) (w:World):Sem.run Tryz.prog (Instr.slice 9 (.string s) (some (.int .i64 a)) (some (.int .i64 ((a:Int)+(n:Int)))) none) w=.ok (.string (s.extract a (a+n))) w:=by
 have:=run_slice_string (P:=Tryz.prog) (w:=w) 9 s .i64 .i64 (a:Int) ((a:Int)+(n:Int)) Tryz.underlying9 (by omega) (by omega) (by omega)
 have e:((a:Int)+(n:Int)).toNat=a+n:=by omega
 rw [e,show (a:Int).toNat=a from by omega] at this
 exact this
structure Own3 (w:World) (b:Nat) (x y z:Value) (T:TypeId):Prop where
 cells:w.heap[b]?=some (.cells #[x,y,z] T (0,0))
theorem Own3.c0 {w:World} {b:Nat} {x y z:Value} {T:TypeId} (h:Own3 w b x y z T):w.cell? ⟨b,0,none⟩=some x:=by simp [World.cell?,h.cells]
theorem Own3.c1 {w:World} {b:Nat} {x y z:Value} {T:TypeId} (h:Own3 w b x y z T):w.cell? ⟨b,1,none⟩=some y:=by simp [World.cell?,h.cells]
theorem Own3.c2 {w:World} {b:Nat} {x y z:Value} {T:TypeId} (h:Own3 w b x y z T):w.cell? ⟨b,2,none⟩=some z:=by simp [World.cell?,h.cells]
theorem Own3.f {w:World} {b:Nat} {x y z:Value} {T:TypeId} (h:Own3 w b x y z T) (k:Nat):w.frozen? ⟨b,k,none⟩=false:=by simp [World.frozen?,h.cells]
theorem row_setCell {w:World} {b k:Nat} {xs:Array Value} {u:Value} {t:TypeId} (h:w.heap[b]?=some (.cells xs t (0,0))):(w.setCell ⟨b,k,none⟩ u).heap[b]?=some (.cells (xs.setIfInBounds k u) t (0,0)):=by
 have hlt:=lt_of_block h
 have h':w.heap[b]=.cells xs t (0,0):=by simpa [Array.getElem?_eq_getElem hlt] using h
 show (w.heap.modify b _)[b]?=_
 rw [Array.getElem?_eq_getElem (by simpa using hlt),Array.getElem_modify_self,h']
 rfl
theorem Own3.set {w:World} {b:Nat} {x y z:Value} {T:TypeId} (h:Own3 w b x y z T) (x' y' z':Value):Own3 (((w.setCell ⟨b,0,none⟩ x').setCell ⟨b,1,none⟩ y').setCell ⟨b,2,none⟩ z') b x' y' z' T :=
 ⟨row_setCell (row_setCell (row_setCell h.cells))⟩

set_option maxHeartbeats 4000000 in
theorem token_any (s:ByteArray) (hs:s.size≤1000000) (a:Nat) (ha:a < s.size) (w:World) (hk:Kw w) :
  Calls Tryz.prog 225 #[.string s,.int .i64 a] w fun e w'=>e=.returned (tokV a (tokN (s.data.toList.drop a)))∧Below w.heap.size w w':=by
 have hT:=tokN_at s a ha
 have HB:=fun W=>blank_any s[a] W
 have HR:=fun W=>lrest_any s[a] W
 have HS:=fun W=>lsign_any s[a] W
 have HH:=fun W=>Tryz.strings_HasPrefix (s.extract a s.size) ⟨#[40,42]⟩ W
 have hhd:(⟨#[40,42]⟩:ByteArray).data.toList=[40,42]:=rfl
 rw [hhd] at HH
 have hbl:=passN_le (pureF blankB) () (s.data.toList.drop a)
 have hrl:=passN_le (pureF restB) () (s.data.toList.drop a)
 have hsl:=passN_le (pureF signB) () (s.data.toList.drop a)
 rw [List.length_drop,data_len] at hbl hrl hsl
 have hW:=hk.alloc (.cells #[.int .i64 0,.int .i64 0,.int .i64 0] 119)
 have HPB:=fun W=>pass_pure blankB 260 cf23 blank_any s hs a (by omega) W
 have HPR:=fun W=>pass_pure restB 265 cf28 lrest_any s hs a (by omega) W
 have HPS:=fun W=>pass_pure signB 267 cf30 lsign_any s hs a (by omega) W
 have hrp:restB s[a]=true→0 < passN (pureF restB) () (s.data.toList.drop a):=fun h=>by rw [drop_at s a ha]; exact pass_pos h
 have hsp:signB s[a]=true→0 < passN (pureF signB) () (s.data.toList.drop a):=fun h=>by rw [drop_at s a ha]; exact pass_pos h
 generalize hgb:passN (pureF blankB) () (s.data.toList.drop a)=nb at *
 generalize hgr:passN (pureF restB) () (s.data.toList.drop a)=nr at *
 generalize hgs:passN (pureF signB) () (s.data.toList.drop a)=ns at *
 clear hgb hgr hgs
 cases h1:blankB s[a]
 case true =>
  rw [h1] at HB hT
  have HT:=Lib.hid hT
  clear hT hk hrp hsp h1
  go_enter Tryz.func225,Tryz.ntmps225
  go_wp2_with fail
  refine (HB _).mono ?_
  rintro e w1 ⟨rfl,rfl⟩
  go_wp2_with fail
  refine (HPB _).mono ?_
  rintro e w1 ⟨rfl,rfl⟩
  go_wp2_with fail
  go_returns
  rw [HT.out]
  exact ⟨rfl,(Below.refl _ _).alloc (Nat.le_refl _) _⟩
 rw [h1] at HB hT
 clear h1
 cases h2:((s[a].toNat:Int) == 34)
 case true =>
  rw [h2] at hT
  have HT:=Lib.hid hT
  have HQ:=fun W=>quoted_any s hs a ha W
  generalize quoteN (s.data.toList.drop (a+1))=q at *
  obtain ⟨k,m⟩:=q
  clear hT hk hrp hsp
  go_enter Tryz.func225,Tryz.ntmps225
  go_wp2_with fail
  refine (HB _).mono ?_
  rintro e w1 ⟨rfl,rfl⟩
  go_wp2_with fail
  refine (HQ _).mono ?_
  rintro e w1 ⟨rfl,hb⟩
  have hcl:=hb.block w.heap.size (by simp)
  rw [heap_alloc_new] at hcl
  have HO:Own3 w1 w.heap.size _ _ _ _:=⟨hcl⟩
  have c0:=HO.c0
  have c1:=HO.c1
  have c2:=HO.c2
  have f0:=HO.f 0
  have f1:=HO.f 1
  have f2:=HO.f 2
  clear hcl
  have HBel:=Lib.hid ((((Below.refl w.heap.size w).alloc (Nat.le_refl _) _)).trans (hb.mono (by simp)))
  clear hb
  go_wp2_with fail
  have HO2:=HO.set (.int .i64 k) (.int .i64 (a:Int)) (.int .i64 ((a:Int)+(m:Int)))
  have HB2:=Lib.hid (((HBel.out.setCell (p:=⟨w.heap.size,0,none⟩) (Nat.le_refl _) (.int .i64 k)).setCell (p:=⟨w.heap.size,1,none⟩) (Nat.le_refl _) (.int .i64 (a:Int))).setCell (p:=⟨w.heap.size,2,none⟩) (Nat.le_refl _) (.int .i64 ((a:Int)+(m:Int))))
  clear c0 c1 c2 f0 f1 f2 HO HBel
  generalize (((w1.setCell ⟨w.heap.size,0,none⟩ (.int .i64 k)).setCell ⟨w.heap.size,1,none⟩ (.int .i64 (a:Int))).setCell ⟨w.heap.size,2,none⟩ (.int .i64 ((a:Int)+(m:Int))))=W2 at *
  have c0:=HO2.c0
  have c1:=HO2.c1
  have c2:=HO2.c2
  try simp only [Exit.inBlock,Exit.then]
  refine bodyPost_ret (by simp [results,Tryz.results225,go_sem,c0,c1,c2,Result.andThen]; try rfl) rfl ?_
  rw [HT.out]
  exact ⟨rfl,HB2.out⟩
 rw [h2] at hT
 have h2':=h2
 clear h2
 cases h3:Lib.hasPrefix (s.extract a s.size).data.toList [40,42]
 case true =>
  rw [h3] at HH hT
  have HT:=Lib.hid hT
  have HQ:=fun W=>note_any s hs a ha W
  generalize noteN (s.data.toList.drop a)=q at *
  obtain ⟨k,m⟩:=q
  clear hT hk hrp hsp h3
  go_enter Tryz.func225,Tryz.ntmps225
  go_wp2_with fail
  refine (HB _).mono ?_
  rintro e w1 ⟨rfl,rfl⟩
  go_wp2_with fail
  refine (HH _).mono ?_
  rintro e w1 ⟨rfl,rfl⟩
  go_wp2_with fail
  refine (HQ _).mono ?_
  rintro e w1 ⟨rfl,hb⟩
  have hcl:=hb.block w.heap.size (by simp)
  rw [heap_alloc_new] at hcl
  have HO:Own3 w1 w.heap.size _ _ _ _:=⟨hcl⟩
  have c0:=HO.c0
  have c1:=HO.c1
  have c2:=HO.c2
  have f0:=HO.f 0
  have f1:=HO.f 1
  have f2:=HO.f 2
  clear hcl
  have HBel:=Lib.hid ((((Below.refl w.heap.size w).alloc (Nat.le_refl _) _)).trans (hb.mono (by simp)))
  clear hb
  go_wp2_with fail
  have HO2:=HO.set (.int .i64 k) (.int .i64 (a:Int)) (.int .i64 ((a:Int)+(m:Int)))
  have HB2:=Lib.hid (((HBel.out.setCell (p:=⟨w.heap.size,0,none⟩) (Nat.le_refl _) (.int .i64 k)).setCell (p:=⟨w.heap.size,1,none⟩) (Nat.le_refl _) (.int .i64 (a:Int))).setCell (p:=⟨w.heap.size,2,none⟩) (Nat.le_refl _) (.int .i64 ((a:Int)+(m:Int))))
  clear c0 c1 c2 f0 f1 f2 HO HBel
  generalize (((w1.setCell ⟨w.heap.size,0,none⟩ (.int .i64 k)).setCell ⟨w.heap.size,1,none⟩ (.int .i64 (a:Int))).setCell ⟨w.heap.size,2,none⟩ (.int .i64 ((a:Int)+(m:Int))))=W2 at *
  have c0:=HO2.c0
  have c1:=HO2.c1
  have c2:=HO2.c2
  try simp only [Exit.inBlock,Exit.then]
  refine bodyPost_ret (by simp [results,Tryz.results225,go_sem,c0,c1,c2,Result.andThen]; try rfl) rfl ?_
  rw [HT.out]
  exact ⟨rfl,HB2.out⟩
 rw [h3] at HH hT
 clear h3
 cases h4:restB s[a]
 case true =>
  rw [h4] at HR hT
  have HT:=Lib.hid hT
  have hp:=hrp h4
  have hsl:=slice_at s a nr (by omega)
  have HPl:=plain_any (s.extract a (a+nr)) (by simp; omega) (by simp; omega) _ hW
  generalize plainN (s.extract a (a+nr)).data.toList=k at *
  clear hT hk hrp hsp h4
  go_enter Tryz.func225,Tryz.ntmps225
  go_wp2_with fail
  refine (HB _).mono ?_
  rintro e w1 ⟨rfl,rfl⟩
  go_wp2_with fail
  refine (HH _).mono ?_
  rintro e w1 ⟨rfl,rfl⟩
  go_wp2_with fail
  refine (HR _).mono ?_
  rintro e w1 ⟨rfl,rfl⟩
  go_wp2_with fail
  refine (HPR _).mono ?_
  rintro e w1 ⟨rfl,rfl⟩
  go_wp2_with fail
  refine (HPl).mono ?_
  rintro e w1 ⟨rfl,rfl⟩
  go_wp2_with fail
  go_returns
  rw [HT.out]
  exact ⟨rfl,(Below.refl _ _).alloc (Nat.le_refl _) _⟩
 rw [h4] at HR hT
 clear h4
 cases h5:signB s[a]
 case true =>
  rw [h5] at HS hT
  have HT:=Lib.hid hT
  have hp:=hsp h5
  have hsl:=slice_at s a ns (by omega)
  have HPl:=plain_any (s.extract a (a+ns)) (by simp; omega) (by simp; omega) _ hW
  generalize plainN (s.extract a (a+ns)).data.toList=k at *
  clear hT hk hrp hsp h5
  go_enter Tryz.func225,Tryz.ntmps225
  go_wp2_with fail
  refine (HB _).mono ?_
  rintro e w1 ⟨rfl,rfl⟩
  go_wp2_with fail
  refine (HH _).mono ?_
  rintro e w1 ⟨rfl,rfl⟩
  go_wp2_with fail
  refine (HR _).mono ?_
  rintro e w1 ⟨rfl,rfl⟩
  go_wp2_with fail
  refine (HS _).mono ?_
  rintro e w1 ⟨rfl,rfl⟩
  go_wp2_with fail
  refine (HPS _).mono ?_
  rintro e w1 ⟨rfl,rfl⟩
  go_wp2_with fail
  refine (HPl).mono ?_
  rintro e w1 ⟨rfl,rfl⟩
  go_wp2_with fail
  go_returns
  rw [HT.out]
  exact ⟨rfl,(Below.refl _ _).alloc (Nat.le_refl _) _⟩
 rw [h5] at HS hT
 clear h5
 have HT:=Lib.hid hT
 have hsl:=slice_at s a 1 (by omega)
 simp only [Int.cast_ofNat_Int] at hsl
 have HPl:=plain_any (s.extract a (a+1)) (by simp; omega) (by simp; omega) _ hW
 generalize plainN (s.extract a (a+1)).data.toList=k at *
 clear hT hk hrp hsp
 go_enter Tryz.func225,Tryz.ntmps225
 go_wp2_with fail
 refine (HB _).mono ?_
 rintro e w1 ⟨rfl,rfl⟩
 go_wp2_with fail
 refine (HH _).mono ?_
 rintro e w1 ⟨rfl,rfl⟩
 go_wp2_with fail
 refine (HR _).mono ?_
 rintro e w1 ⟨rfl,rfl⟩
 go_wp2_with fail
 refine (HS _).mono ?_
 rintro e w1 ⟨rfl,rfl⟩
 go_wp2_with fail
 refine (HPl).mono ?_
 rintro e w1 ⟨rfl,rfl⟩
 go_wp2_with fail
 go_returns
 rw [HT.out]
 exact ⟨rfl,(Below.refl _ _).alloc (Nat.le_refl _) _⟩
end Go.Proofs.YtmpmfamiegpmgaaGreatDoor

namespace Go.Proofs.YtmpmfamiegpmgaaGreatDoor
open Go.RowKit
set_option linter.unusedVariables false
set_option linter.unusedSimpArgs false

def Tok.v (t:Tok):Value:=.agg #[.int .i64 t.k,.int .i64 (t.a:Int),.int .i64 (t.e:Int)]
/-- The token at a place; at the text's end: the end. -/
def tokAt (s:ByteArray) (a:Nat):Tok:=bif decide (a < s.size) then ⟨(tokN (s.data.toList.drop a)).1,a,a+(tokN (s.data.toList.drop a)).2⟩ else ⟨0,s.size,s.size⟩
theorem tokAt_in (s:ByteArray) (a:Nat) (h:a < s.size):tokAt s a=⟨(tokN (s.data.toList.drop a)).1,a,a+(tokN (s.data.toList.drop a)).2⟩:=by
 unfold tokAt; rw [decide_eq_true h]; rfl
theorem tokAt_end (s:ByteArray):tokAt s s.size=⟨0,s.size,s.size⟩:=by
 unfold tokAt; rw [decide_eq_false (by omega)]; rfl
/-- Tokens up to the first that is the end, or enough. -/
def uptoN (go:Tok→Bool):List Tok→List Tok
 | []=>[]
 | k :: r=>bif go k && !(k.k == 0) then k :: uptoN go r else [k]
/-- The tokens from a place on, with the end. -/
def restT (s:ByteArray) (a:Nat):List Tok:=scanF s.size a (s.data.toList.drop a)++[⟨0,s.size,s.size⟩]
theorem restT_at (s:ByteArray) (a:Nat) (h:a < s.size):restT s a=tokAt s a :: restT s (tokAt s a).e:=by
 unfold restT
 rw [scan_at s a h,tokAt_in s a h]
 rfl
theorem restT_end (s:ByteArray):restT s s.size=[tokAt s s.size]:=by
 unfold restT
 rw [scan_end s s.size s.size (by omega),tokAt_end]
 rfl
theorem tokAt_bound (s:ByteArray) (a:Nat) (h:a < s.size):a < (tokAt s a).e∧(tokAt s a).e≤s.size:=by
 rw [tokAt_in s a h]
 have:=tokN_bound (s.data.toList.drop a) (by rw [drop_at s a h]; simp)
 rw [List.length_drop,data_len] at this
 exact ⟨by simp; omega,by simp; omega⟩
theorem tokenAt_any (s:ByteArray) (hs:s.size≤1000000) (a:Nat) (ha:a≤s.size) (w:World) (hk:Kw w) :
  Calls Tryz.prog 225 #[.string s,.int .i64 a] w fun e w'=>e=.returned (.agg #[.int .i64 (tokAt s a).k,.int .i64 ((tokAt s a).a:Int),.int .i64 ((tokAt s a).e:Int)])∧Below w.heap.size w w':=by
 by_cases h:a < s.size
 ·rw [tokAt_in s a h]
  exact token_any s hs a h w hk
 ·have:a=s.size:=by omega
  subst this
  rw [tokAt_end]
  exact token_end s w hs

theorem wp_scope_label2 {P:Program} {a:Act} {w:World} {Q:Exit→Act→World→Prop} {x rest:Code} (l:Nat) (J:Act→World→Prop) (μ:Act→World→Nat)
  (hf:findLabel (x.seq ((Code.label l).seq rest)) l=some (Code.skip.seq rest))
  (h0:x.wp P (Exit.then J (fun _ _ _=>False)) a w) (pass:∀ a w,J a w→rest.wp P (Exit.jump l (fun a' w'=>J a' w'∧μ a' w' < μ a w) Q) a w):(Code.scope (x.seq ((Code.label l).seq rest))).wp P Q a w:=by
 have hs:∀ a w,J a w→(Code.skip.seq rest).wp P (Exit.jump l (fun a' w'=>J a' w'∧μ a' w' < μ a w) Q) a w:=fun a w h=>wp_seq (wp_skip (pass a w h))
 refine wp_scope_jumps l J μ hf ?_ hs
 refine wp_seq (wp_mono h0 ?_)
 intro e a w h
 cases e with
 | normal=>exact wp_seq (wp_label (wp_mono (pass a w h) (Exit.jump_mono fun _ _ h=>h.1)))
 | _=>exact h.elim

set_option maxHeartbeats 2000000 in
theorem each_any (go:Tok→Bool) (I:List Tok→World→Prop) (n:Nat) (cap:Array Value)
  (hcf:∀ args w,Sem.run Tryz.prog (callFunc n args) w=.ok (.enter n args) w) (s:ByteArray) (hs:s.size≤1000000)
  (hst:∀ l w w',I l w→Below w.heap.size w w'→I l w') (hkw:∀ l w,I l w→Kw w)
  (H:∀ l a w o,a≤s.size→l.length≤s.size→(∀ t ∈ l,go t=true)→I l w→Calls Tryz.prog n (#[(tokAt s a).v]++cap) (w.alloc o) fun e w'=>e=.returned (.bool (go (tokAt s a)))∧I (l++[tokAt s a]) w'∧w'.heap[w.heap.size]?=some o)
  (w:World) (h0:I [] w) :
  Calls Tryz.prog 168 #[.string s,.func (.func n) #[] cap] w fun e w'=>e=.returned (.tuple #[])∧I (uptoN go (restT s 0)) w':=by
 have HH:=Lib.hid H
 have HS:=Lib.hid hst
 have HK:=Lib.hid hkw
 clear H hst hkw
 go_enter Tryz.func168,Tryz.ntmps168
 go_wp2
 refine wp_scope_label2 0 (fun a' w'=>∃ (a:Nat) (l:List Tok) (u5 u6 u7 u8 u9 u10 u11 u12 u13 u14 u15 u16 u17 u18:Value),a≤s.size∧l.length≤a∧Hid (∀ t ∈ l,go t=true)∧Hid (I l w')∧Hid (uptoN go (restT s 0)=l++uptoN go (restT s a))∧a'={ tmps:=#[.string s,.func (.func n) #[] cap,undef,undef,.int .i64 a,u5,u6,u7,u8,u9,u10,u11,u12,u13,u14,u15,u16,u17,u18],defers:=[] }) (fun a' _=>s.size - (intOf (a'.tmps.getD 4 undef)).toNat) (by rfl) ?_ ?_
 ·go_wp2
  exact ⟨0,[],undef,undef,undef,undef,undef,undef,undef,undef,undef,undef,undef,undef,undef,undef,by omega,by simp,Lib.hid (fun t h=>by simp at h),Lib.hid h0,Lib.hid rfl,rfl⟩
 rintro a' w' ⟨a,l,u5,u6,u7,u8,u9,u10,u11,u12,u13,u14,u15,u16,u17,u18,ha,hl,HG,HI,HP,rfl⟩
 have HT:=tokenAt_any s hs a ha w' (HK.out _ _ HI.out)
 have HX:=fun w o (h:I l w)=>HH.out l a w o ha (by omega) HG.out h
 have HB:Hid (a < s.size→a < (tokAt s a).e∧(tokAt s a).e≤s.size):=Lib.hid (tokAt_bound s a)
 have HR:Hid (a < s.size→restT s a=tokAt s a :: restT s (tokAt s a).e):=Lib.hid (restT_at s a)
 have HN:Hid (¬ a < s.size→restT s a=[tokAt s a]∧(tokAt s a).k=0):=Lib.hid fun h=>by
  have:a=s.size:=by omega
  subst this
  exact ⟨restT_end s,by rw [tokAt_end]⟩
 generalize tokAt s a=T at *
 obtain ⟨tk,ta,te⟩:=T
 simp only [Tok.v] at HX HT
 go_wp2_with fail
 refine HT.mono ?_
 rintro e w1 ⟨rfl,hb1⟩
 have HI1:=Lib.hid (HS.out _ _ _ HI.out hb1)
 clear hb1
 have HX:=HX w1 (.cells #[.int .i64 tk,.int .i64 (ta:Int),.int .i64 (te:Int)] 119) HI1.out
 go_wp2_with fail
 refine HX.mono ?_
 rintro e w2 ⟨rfl,h2,hc⟩
 have HO:Own3 w2 w1.heap.size _ _ _ _:=⟨hc⟩
 have c0:=HO.c0
 have c2:=HO.c2
 have H2:=Lib.hid h2
 have hstop:Hid (go ⟨tk,ta,te⟩=false∨tk=0→uptoN go (restT s 0)=l++[⟨tk,ta,te⟩]):=Lib.hid fun h=>by
  rw [HP.out]
  have e1:(go ⟨tk,ta,te⟩ && !(tk == 0))=false:=by rcases h with h | h <;> simp [h]
  by_cases hlt:a < s.size
  ·rw [HR.out hlt]; simp [uptoN,e1]
  ·rw [(HN.out hlt).1]; simp [uptoN,e1]
 clear h2 hc HO
 cases hg:go ⟨tk,ta,te⟩
 ·have HE:=Lib.hid (hstop.out (.inl hg))
  go_wp2
  simp only [Exit.jump]
  go_returns
  exact ⟨rfl,HE.out ▸ H2.out⟩
 ·by_cases hz:tk=0
  ·have HE:=Lib.hid (hstop.out (.inr hz))
   go_wp2
   simp only [Exit.jump]
   go_returns
   exact ⟨rfl,HE.out ▸ H2.out⟩
  ·have hlt:a < s.size:=by
    apply Decidable.byContradiction
    intro h
    exact hz (HN.out h).2
   have hb:=HB.out hlt
   have HE:Hid (uptoN go (restT s 0)=(l++[⟨tk,ta,te⟩])++uptoN go (restT s te)):=Lib.hid (by
    rw [HP.out,HR.out hlt]
    have e1:(go ⟨tk,ta,te⟩ && !(tk == 0))=true:=by simp [hg,hz]
    simp [uptoN,e1])
   have HG2:Hid (∀ t ∈ l++[⟨tk,ta,te⟩],go t=true):=Lib.hid fun t ht=>by
    rcases List.mem_append.1 ht with h | h
    ·exact HG.out t h
    ·simp at h; subst h; exact hg
   have hz':(tk == 0)=false:=by simpa using hz
   go_wp2
   go_step3
   refine ⟨rfl,⟨te,_,_,_,_,_,_,_,_,_,_,_,_,_,_,_,hb.2,by simp; omega,HG2,H2,HE,by go_num⟩,?_⟩
   simp [intOf]; omega
end Go.Proofs.YtmpmfamiegpmgaaGreatDoor

namespace Go.Proofs.YtmpmfamiegpmgaaGreatDoor
open Go.RowKit
set_option maxRecDepth 20000
set_option linter.unusedVariables false
set_option linter.unusedSimpArgs false

def cellsT:List Tok→List Value
 | []=>[]
 | t :: r=>.int .i64 t.k :: .int .i64 (t.a:Int) :: .int .i64 (t.e:Int) :: cellsT r
theorem cellsT_append (a b:List Tok):cellsT (a++b)=cellsT a++cellsT b:=by
 induction a with
 | nil=>rfl
 | cons x r ih=>simp [cellsT,ih]
theorem info26:(Tryz.prog.info? 119).map (fun i=>(i.zero,i.size,i.bytes))=some (some (.agg #[.int .i64 0,.int .i64 0,.int .i64 0]),3,24):=by kernel_rfl

/-- What those has gathered, in its own two variables. -/
structure TakesT (B:Nat) (w0:World) (m:Nat) (l:List Tok) (v:Value) (w:World):Prop where
 ask:w.heap[B]?=some (.cells #[.func (.func m) #[] #[]] 136 (0,0))
 out:w.heap[B+1]?=some (.cells #[v] 50 (0,0))
 own:w.ownsRow (B+2) 119 3 v l.length (cellsT l)
 below:Below B w0 w
 kw:Kw w
theorem ownsRow_below {w w':World} {base:Nat} {e:TypeId} {size:Nat} {v:Value} {n:Nat} {xs:List Value} (h:w.ownsRow base e size v n xs) (hb:Below w.heap.size w w'):w'.ownsRow base e size v n xs:=by
 refine ⟨h.1,?_⟩
 rcases h.2 with h0 | ⟨g,cap,cur,hv,hg,hh,r⟩
 ·exact .inl h0
 ·exact .inr ⟨g,cap,cur,hv,hg,(hb.block g (lt_of_block hh)).trans hh,r⟩
theorem TakesT.step {B:Nat} {w0:World} {m:Nat} {l:List Tok} {v:Value} {w w':World} (h:TakesT B w0 m l v w) (hb:Below w.heap.size w w'):TakesT B w0 m l v w' :=
 ⟨(hb.block _ (lt_of_block h.ask)).trans h.ask,(hb.block _ (lt_of_block h.out)).trans h.out,ownsRow_below h.own hb,h.below.trans (hb.mono (Nat.le_of_lt (lt_of_block h.ask))),h.kw.step hb⟩

set_option maxHeartbeats 1000000 in
theorem t1_no (m:Nat) (ask:Int→Bool) (hcf:∀ args w,Sem.run Tryz.prog (callFunc m args) w=.ok (.enter m args) w) (T:Tok)
  (hm:∀ w,Calls Tryz.prog m #[.int .i64 T.k] w fun e w'=>e=.returned (.bool false)∧w=w')
  (B:Nat) (w0 w:World) (o:Obj) (l:List Tok) (v:Value) (h:TakesT B w0 m l v w) :
  Calls Tryz.prog 175 #[T.v,.pointer (some ⟨B,0,none⟩),.pointer (some ⟨B+1,0,none⟩)] (w.alloc o) fun e w'=>e=.returned (.bool true)∧TakesT B w0 m l v w'∧w'.heap[w.heap.size]?=some o:=by
 have hA:=(h.step ((Below.refl _ _).alloc (Nat.le_refl _) o))
 have c0:=cell_of_one hA.ask
 have hlt:=lt_of_block h.ask
 have HA:=Lib.hid hA
 clear hA h
 obtain ⟨k,a,e⟩:=T
 simp only [Tok.v] at *
 go_enter Tryz.func175,Tryz.ntmps175
 go_wp2_with fail
 refine (hm _).mono ?_
 rintro e w1 ⟨rfl,rfl⟩
 go_wp2_with fail
 go_returns
 refine ⟨rfl,HA.out.step (by go_grown),?_⟩
 rw [heap_alloc_old _ _ (by simp)]
 exact heap_alloc_new w o
theorem ownsRow_low {w:World} {base:Nat} {e:TypeId} {size:Nat} {v:Value} {n:Nat} {xs:List Value} (h:w.ownsRow base e size v n xs) {b o:Nat} (hb:b < base) (u:Value):(w.setCell ⟨b,o,none⟩ u).ownsRow base e size v n xs:=by
 refine h.kept (row:=some b) ⟨rfl,rfl,rfl,by simp [World.setCell],fun k _ hk=>Below.heap_setCell _ _ _ _ (fun e=>hk (by simp [e]))⟩ ?_
 cases hv:v.ownBlock with
 | none=>exact .inl rfl
 | some g=>exact .inr (fun e=>by have:=(h.lt g hv).1; simp only [Option.some.injEq] at e; omega)
theorem ownsRow_below_far {w:World} {base:Nat} {e:TypeId} {size:Nat} {v:Value} {n:Nat} {xs:List Value} (h:w.ownsRow base e size v n xs) {k:Nat} (hk:k < base):v.ownBlock≠some k:=fun g=>by
 have:=(h.lt k g).1; omega

set_option maxHeartbeats 1000000 in
theorem t1_yes (m:Nat) (ask:Int→Bool) (hcf:∀ args w,Sem.run Tryz.prog (callFunc m args) w=.ok (.enter m args) w) (T:Tok)
  (hm:∀ w,Calls Tryz.prog m #[.int .i64 T.k] w fun e w'=>e=.returned (.bool true)∧w=w')
  (B:Nat) (w0 w:World) (o:Obj) (l:List Tok) (v:Value) (h:TakesT B w0 m l v w) (hl:l.length≤1000000) :
  Calls Tryz.prog 175 #[T.v,.pointer (some ⟨B,0,none⟩),.pointer (some ⟨B+1,0,none⟩)] (w.alloc o) fun e w'=>e=.returned (.bool true)∧(∃ v',TakesT B w0 m (l++[T]) v' w')∧w'.heap[w.heap.size]?=some o:=by
 have hlt:=lt_of_block h.ask
 have hlt1:=lt_of_block h.out
 obtain ⟨i0,hi0,hy0,hy1,hy2⟩:=info_parts info26
 obtain ⟨k,a,e⟩:=T
 simp only [Tok.v] at *
 have hA:=(h.step ((Below.refl _ _).alloc (Nat.le_refl _) o))
 have c0:=cell_of_one hA.ask
 have hA2:=hA.step ((Below.refl _ _).alloc (Nat.le_refl _) (.cells #[.int .i64 k,.int .i64 (a:Int),.int .i64 (e:Int)] 119))
 have c1:=cell_of_one hA2.out
 have hA3:=hA2.step ((Below.refl _ _).alloc (Nat.le_refl _) (.cells #[.int .i64 k,.int .i64 (a:Int),.int .i64 (e:Int)] 119))
 have HA3:=Lib.hid hA3
 have HW:=Lib.hid h
 clear hA hA2 hA3 h
 go_enter Tryz.func175,Tryz.ntmps175
 go_wp2_with fail
 refine (hm _).mono ?_
 rintro e' w1 ⟨rfl,rfl⟩
 go_wp2_with (at_builtin; refine wpList_append_own _ rfl (.tmp 9) (.tmp 11) 50 rfl (B+2) 119 i0 (.agg #[.int .i64 0,.int .i64 0,.int .i64 0]) 3 24 Tryz.underlying50 hi0 hy0 hy1 hy2 rfl (by omega) v l.length (cellsT l) rfl HA3.out.own ⟨w.heap.size+1+1,0,none⟩ 1 1 [.int .i64 k,.int .i64 (a:Int),.int .i64 (e:Int)] rfl rfl (World.news_of_block (cs:=#[.int .i64 k,.int .i64 (a:Int),.int .i64 (e:Int)]) (t:=119) (fr:=(0,0)) (by have:=heap_alloc_new ((w.alloc o).alloc (.cells #[.int .i64 k,.int .i64 (a:Int),.int .i64 (e:Int)] 119)) (.cells #[.int .i64 k,.int .i64 (a:Int),.int .i64 (e:Int)] 119); simpa using this)) (by simp [Value.oneCell']) (by unfold maxLen; omega) (by omega) (by simp; omega) ?_)
 intro v' w2 hown hg hne
 obtain ⟨g',cap',rfl⟩:∃ g c,v'=.slice (some ⟨g,0,none⟩) (l.length+1) c:=by
  rcases hown.2 with ⟨e1,e2⟩ | ⟨g,c,_,e1,_⟩
  ·omega
  ·exact ⟨g,c,e1⟩
 have n0:=ownsRow_below_far HW.out.own (k:=B) (by omega)
 have n1:=ownsRow_below_far HW.out.own (k:=B+1) (by omega)
 have n2:v.ownBlock≠some w.heap.size:=fun e=>by have:=(HW.out.own.lt _ e).2; omega
 have b0:=(hg.block B (by simp; omega) (Ne.symm n0)).trans HA3.out.ask
 have b1:=(hg.block (B+1) (by simp; omega) (Ne.symm n1)).trans HA3.out.out
 have b2:w2.heap[w.heap.size]?=some o:=(hg.block w.heap.size (by simp; omega) (Ne.symm n2)).trans (by rw [heap_alloc_old _ _ (by simp; omega),heap_alloc_old _ _ (by simp)]; exact heap_alloc_new w o)
 have c2:=cell_of_one b1
 have f2:=free_of_one b1
 have hsz:w.heap.size < w2.heap.size:=lt_of_block b2
 have hbe:Below B w0 w2:=HA3.out.below.grown hg (by simp; omega) (fun k hk=>by have:=(HW.out.own.lt k hk).1; omega)
 have hkw:Kw w2:=by
  obtain ⟨⟨t,fr,hk⟩,_⟩:=HA3.out.kw
  refine Kw.of (t:=t) (fr:=fr) ((hg.block 0 (Array.getElem?_eq_some_iff.1 hk).1 ?_).trans hk)
  intro e
  have:=(HW.out.own.lt 0 e.symm).1
  omega
 have FIN:TakesT B w0 m (l++[⟨k,a,e⟩]) (.slice (some ⟨g',0,none⟩) (l.length+1) cap') (w2.setCell ⟨B+1,0,none⟩ (.slice (some ⟨g',0,none⟩) (l.length+1) cap')):=by
  refine ⟨(Below.heap_setCell _ _ _ _ (show B≠B+1 by omega)).trans b0,one_setCell b1,?_,hbe.setCell (show B≤B+1 by omega) _,?_⟩
  ·rw [List.length_append,cellsT_append]
   exact ownsRow_low hown (by omega) _
  ·obtain ⟨⟨t,fr,hk⟩,_⟩:=hkw
   refine Kw.of (t:=t) (fr:=fr) ((Below.heap_setCell _ _ _ _ (show (0:Nat)≠B+1 by omega)).trans hk)
 have FIN:=Lib.hid FIN
 have B2:=Lib.hid ((Below.heap_setCell w2 ⟨B+1,0,none⟩ (.slice (some ⟨g',0,none⟩) (l.length+1) cap') w.heap.size (show w.heap.size≠B+1 by omega)).trans b2)
 clear hown hg hne n0 n1 n2 b0 b1 b2 hbe hkw
 go_wp2_with fail
 go_returns
 exact ⟨rfl,⟨_,FIN.out⟩,B2.out⟩
/-- The tokens whose kinds are as asked. -/
def pickT (ask:Int→Bool):List Tok→List Tok
 | []=>[]
 | t :: r=>bif ask t.k then t :: pickT ask r else pickT ask r
theorem pickT_append (ask:Int→Bool) (a b:List Tok):pickT ask (a++b)=pickT ask a++pickT ask b:=by
 induction a with
 | nil=>rfl
 | cons x r ih=>simp only [List.cons_append,pickT]; cases ask x.k <;> simp [ih]
theorem pickT_length (ask:Int→Bool) (l:List Tok):(pickT ask l).length≤l.length:=by
 induction l with
 | nil=>simp [pickT]
 | cons x r ih=>simp only [pickT]; cases ask x.k <;> simp <;> omega
theorem t1_any (m:Nat) (ask:Int→Bool) (hcf:∀ args w,Sem.run Tryz.prog (callFunc m args) w=.ok (.enter m args) w) (T:Tok)
  (hm:∀ w,Calls Tryz.prog m #[.int .i64 T.k] w fun e w'=>e=.returned (.bool (ask T.k))∧w=w')
  (B:Nat) (w0 w:World) (o:Obj) (l:List Tok) (v:Value) (h:TakesT B w0 m l v w) (hl:l.length≤1000000) :
  Calls Tryz.prog 175 #[T.v,.pointer (some ⟨B,0,none⟩),.pointer (some ⟨B+1,0,none⟩)] (w.alloc o) fun e w'=>e=.returned (.bool true)∧(∃ v',TakesT B w0 m (l++pickT ask [T]) v' w')∧w'.heap[w.heap.size]?=some o:=by
 cases ha:ask T.k
 ·refine (t1_no m ask hcf T (fun w=>by have:=hm w; rw [ha] at this; exact this) B w0 w o l v h).mono ?_
  rintro e w' ⟨rfl,h1,h2⟩
  exact ⟨rfl,⟨v,by simpa [pickT,ha] using h1⟩,h2⟩
 ·refine (t1_yes m ask hcf T (fun w=>by have:=hm w; rw [ha] at this; exact this) B w0 w o l v h hl).mono ?_
  rintro e w' ⟨rfl,⟨v',h1⟩,h2⟩
  exact ⟨rfl,⟨v',by simpa [pickT,ha] using h1⟩,h2⟩
theorem cf20 (args:Array Value) (w:World):Sem.run Tryz.prog (callFunc 175 args) w=.ok (.enter 175 args) w:=cf_enter Tryz.func175 (by kernel_rfl) (by kernel_rfl) args w

/-- A slice of tokens, made by the call itself, that holds these. -/
def ToksAt (w:World) (v:Value) (l:List Tok):Prop:=∃ base,w.ownsRow base 119 3 v l.length (cellsT l)

set_option maxHeartbeats 1000000 in
theorem those_any (m:Nat) (ask:Int→Bool) (hcf:∀ args w,Sem.run Tryz.prog (callFunc m args) w=.ok (.enter m args) w)
  (hm:∀ k w,Calls Tryz.prog m #[.int .i64 k] w fun e w'=>e=.returned (.bool (ask k))∧w=w')
  (s:ByteArray) (hs:s.size≤1000000) (w:World) (hk:Kw w) :
  Calls Tryz.prog 123 #[.string s,.func (.func m) #[] #[]] w fun e w'=>∃ v,e=.returned v∧ToksAt w' v (pickT ask (uptoN (fun _=>true) (restT s 0)))∧Below w.heap.size w w':=by
 have h0:TakesT w.heap.size w m [] (.slice none 0 0) ((w.alloc (.cells #[.func (.func m) #[] #[]] 136)).alloc (.cells #[.slice none 0 0] 50)):=by
  refine ⟨?_,?_,World.ownsRow_nil _ _ _ _,((Below.refl _ _).alloc (Nat.le_refl _) _).alloc (by simp) _,(hk.alloc _).alloc _⟩
  ·rw [heap_alloc_old _ _ (by simp)]; exact heap_alloc_new w _
  ·have:=heap_alloc_new (w.alloc (.cells #[.func (.func m) #[] #[]] 136)) (.cells #[.slice none 0 0] 50); simpa using this
 have HE:=each_any (fun _=>true) (fun l W=>∃ v,TakesT w.heap.size w m (pickT ask l) v W) 175 #[.pointer (some ⟨w.heap.size,0,none⟩),.pointer (some ⟨w.heap.size+1,0,none⟩)] cf20 s hs (fun l W W' h hb=>by obtain ⟨v,h⟩:=h; exact ⟨v,h.step hb⟩) (fun l W h=>by obtain ⟨v,h⟩:=h; exact h.kw)
  (fun l a W o ha hl _ h=>by
   obtain ⟨v,h⟩:=h
   refine (t1_any m ask hcf (tokAt s a) (hm _) w.heap.size w W o _ v h (by have:=pickT_length ask l; omega)).mono ?_
   rintro e w' ⟨rfl,h1,h2⟩
   exact ⟨rfl,by rw [pickT_append]; exact h1,h2⟩)
  _ ⟨_,h0⟩
 have hmf:∀ (fn:Fn) (first cap:Array Value) (w:World),(Instr.makeFunc fn first cap).run Tryz.prog w=.ok (.func fn first cap) w:=fun _ _ _ _=>rfl
 clear h0 hm hk
 generalize pickT ask (uptoN (fun _=>true) (restT s 0))=L at *
 go_enter Tryz.func123,Tryz.ntmps123
 go_wp2_with fail
 refine HE.mono ?_
 rintro e w1 ⟨rfl,v,h1⟩
 have c0:=cell_of_one h1.out
 have H1:=Lib.hid h1
 clear h1
 go_wp2_with fail
 go_returns
 exact ⟨v,rfl,⟨_,H1.out.own⟩,H1.out.below⟩
end Go.Proofs.YtmpmfamiegpmgaaGreatDoor

namespace Go.Proofs.YtmpmfamiegpmgaaGreatDoor
open Go.RowKit
set_option maxRecDepth 20000
set_option linter.unusedVariables false
set_option linter.unusedSimpArgs false

theorem plainN_pos (p:List UInt8):plainN p≠0:=by
 unfold plainN
 cases p with
 | nil=>decide
 | cons c r =>
  simp only
  cases digB c
  ·cases h:(kindN (bsOf (c :: r)) == 0)
   ·simpa using h
   ·simp
  ·cases passN (pureF digB) () (c :: r) == (c :: r).length <;> simp
theorem tokN_kind (l:List UInt8) (h:l≠[]):(tokN l).1≠0:=by
 cases l with
 | nil=>exact absurd rfl h
 | cons c r =>
  unfold tokN
  simp only
  cases blankB c
  ·cases eqB c 34
   ·cases (eqB c 40 && headB r 42)
    ·cases restB c
     ·cases signB c
      ·simp only [cond_false]; exact plainN_pos _
      ·simp only [cond_false,cond_true]; exact plainN_pos _
     ·simp only [cond_false,cond_true]; exact plainN_pos _
    ·unfold noteN; simp only; cases (passN nF (0,0) (c :: r) == (c :: r).length) <;> simp
   ·unfold quoteN; simp only; cases headB (r.drop (passN qF false r)) 34 <;> simp
  ·simp
theorem uptoN_scanF (go:Tok→Bool) (n a:Nat) (l:List UInt8) (z:Tok) (hz:z.k=0) (hg:∀ t,go t=true):uptoN go (scanF n a l++[z])=scanF n a l++[z]:=by
 induction n generalizing a l with
 | zero=>simp [scanF,uptoN,hz]
 | succ n ih =>
  cases l with
  | nil=>simp [scanF,uptoN,hz]
  | cons c r =>
   have hk:=tokN_kind (c :: r) (by simp)
   simp only [scanF,List.isEmpty_cons,cond_false,List.cons_append,uptoN,hg,Bool.true_and]
   rw [ih]
   have:(!((tokN (c :: r)).1 == 0))=true:=by simpa using hk
   rw [this]
   rfl
/-- All tokens of a text. -/
def scanT (s:ByteArray):List Tok:=restT s 0
theorem upto_scan (s:ByteArray):uptoN (fun _=>true) (restT s 0)=scanT s:=uptoN_scanF _ _ _ _ _ rfl (fun _=>rfl)
theorem cf17 (args:Array Value) (w:World):Sem.run Tryz.prog (callFunc 169 args) w=.ok (.enter 169 args) w:=cf_enter Tryz.func169 (by kernel_rfl) (by kernel_rfl) args w
theorem cf19 (args:Array Value) (w:World):Sem.run Tryz.prog (callFunc 124 args) w=.ok (.enter 124 args) w:=cf_enter Tryz.func124 (by kernel_rfl) (by kernel_rfl) args w
/-- Neither a blank nor a note. -/
def saysB (k:Int):Bool:=!(k == 1) && !(k == 2)
theorem w1_any (k:Int) (w:World):Calls Tryz.prog 124 #[.int .i64 k] w fun e w'=>e=.returned (.bool (saysB k))∧w=w':=by
 by_cases h1:k=1
 ·subst h1
  go_enter Tryz.func124,Tryz.ntmps124
  go_wp2
  go_ret
  exact ⟨rfl,rfl⟩
 ·have HB:Hid (saysB k=(k != 2)):=Lib.hid (by unfold saysB; simp [h1,bne])
  have h1':(k != 1)=true:=by simp [h1]
  go_enter Tryz.func124,Tryz.ntmps124
  go_wp2
  go_ret
  exact ⟨ret_bool HB.out.symm,rfl⟩
/-- The tokens of a text that say something. -/
def wordsT (s:ByteArray):List Tok:=pickT saysB (scanT s)
theorem words_any (s:ByteArray) (hs:s.size≤1000000) (w:World) (hk:Kw w) :
  Calls Tryz.prog 82 #[.string s] w fun e w'=>∃ v,e=.returned v∧ToksAt w' v (wordsT s)∧Below w.heap.size w w':=by
 have H:=those_any 124 saysB cf19 w1_any s hs w hk
 rw [upto_scan] at H
 have e:wordsT s=pickT saysB (scanT s):=rfl
 rw [← e] at H
 clear hk e
 go_enter Tryz.func82,Tryz.ntmps82
 go_wp2_with fail
 refine H.mono ?_
 rintro e w1 ⟨v,rfl,h1,h2⟩
 have H1:=Lib.hid h1
 have H2:=Lib.hid h2
 clear h1 h2
 go_wp2_with fail
 go_returns
 exact ⟨v,rfl,H1.out,H2.out⟩
end Go.Proofs.YtmpmfamiegpmgaaGreatDoor

namespace Go.Proofs.YtmpmfamiegpmgaaGreatDoor
open Go.RowKit
set_option maxRecDepth 20000
set_option linter.unusedVariables false
set_option linter.unusedSimpArgs false

set_option maxHeartbeats 1000000 in
theorem part_any (s:ByteArray) (hs:s.size≤1000000) (k:Int) (a e:Nat) (ha:a≤e) (he:e≤s.size) (w:World) :
  Calls Tryz.prog 226 #[.agg #[.int .i64 k,.int .i64 (a:Int),.int .i64 (e:Int)],.string s] w fun r w'=>r=.returned (.string (s.extract a e))∧Below w.heap.size w w':=by
 have hsl:∀ w,Sem.run Tryz.prog (Instr.slice 9 (.string s) (some (.int .i64 a)) (some (.int .i64 e)) none) w=.ok (.string (s.extract a e)) w:=fun w=>by
  have:=run_slice_string (P:=Tryz.prog) (w:=w) 9 s .i64 .i64 (a:Int) (e:Int) Tryz.underlying9 (by omega) (by omega) (by omega)
  exact this
 go_enter Tryz.func226,Tryz.ntmps226
 go_wp2
 go_returns
 exact ⟨rfl,by go_grown⟩
/-- What is wrong with a bad token that begins there. -/
def badN (s:ByteArray) (a:Nat):Int:=bif headB (s.data.toList.drop a) 34 || headB (s.data.toList.drop a) 40 then 8 else 7
set_option maxHeartbeats 1000000 in
theorem bad_any (s:ByteArray) (hs:s.size≤1000000) (a e:Nat) (ha:a < e) (he:e≤s.size) (w:World) :
  Calls Tryz.prog 170 #[.agg #[.int .i64 3,.int .i64 (a:Int),.int .i64 (e:Int)],.string s] w fun r w'=>r=.returned (.int .i64 (badN s a))∧Below w.heap.size w w':=by
 have HP:=fun W=>part_any s hs 3 a e (by omega) he W
 have hz:(s.extract a e).size=e - a:=by simp; omega
 have h0:0 < (s.extract a e).size:=by omega
 have hem:(s.extract a e).toList.isEmpty=false:=by
  rw [Lib.toList_data]
  cases h:(s.extract a e).data.toList with
  | nil=>exact absurd (show (s.extract a e).size=0 by rw [← data_len,h]; rfl) (by omega)
  | cons=>rfl
 have hB:badN s a=bif (((s.extract a e)[0]'h0).toNat:Int) == 34 || (((s.extract a e)[0]'h0).toNat:Int) == 40 then 8 else 7:=by
  have e1:∀ n,headB (s.data.toList.drop a) n=((((s.extract a e)[0]'h0).toNat:Int) == n):=fun n=>by
   rw [← headB_at (s.extract a e) 0 h0 n,List.drop_zero,Lib.extract_data,drop_at s a (by omega)]
   obtain ⟨m,hm⟩:∃ m,e - a=m+1:=⟨e - a - 1,by omega⟩
   rw [hm]; rfl
  unfold badN
  rw [e1,e1]
 have HB:=Lib.hid hB
 clear hB hz
 generalize s.extract a e=p at *
 cases h1:(((p[0]'h0).toNat:Int) == 34) <;> cases h2:(((p[0]'h0).toNat:Int) == 40) <;> simp only [h1,h2] at HB
 all_goals
  go_enter Tryz.func170,Tryz.ntmps170
  go_wp2_with fail
  refine (HP _).mono ?_
  rintro r w1 ⟨rfl,hb⟩
  have HO:Own3 w1 w.heap.size _ _ _ _:=⟨(hb.block _ (by simp)).trans (heap_alloc_new w _)⟩
  have c0:=HO.c0
  go_wp2_with fail
  go_returns
  exact ⟨ret_int HB.out.symm,((Below.refl w.heap.size w).alloc (Nat.le_refl _) _).trans (hb.mono (by simp))⟩
/-- First's three variables, and what they hold. -/
structure FirstT (B:Nat) (w0:World) (s:ByteArray) (x y:Int) (w:World):Prop where
 txt:w.heap[B]?=some (.cells #[.string s] 9 (0,0))
 pl:w.heap[B+1]?=some (.cells #[.int .i64 x] 3 (0,0))
 er:w.heap[B+2]?=some (.cells #[.int .i64 y] 28 (0,0))
 pos:0 < B
 below:Below B w0 w
 kw:Kw w
theorem FirstT.step {B:Nat} {w0:World} {s:ByteArray} {x y:Int} {w w':World} (h:FirstT B w0 s x y w) (hb:Below w.heap.size w w'):FirstT B w0 s x y w' :=
 ⟨(hb.block _ (lt_of_block h.txt)).trans h.txt,(hb.block _ (lt_of_block h.pl)).trans h.pl,(hb.block _ (lt_of_block h.er)).trans h.er,h.pos,h.below.trans (hb.mono (Nat.le_of_lt (lt_of_block h.txt))),h.kw.step hb⟩
theorem FirstT.put {B:Nat} {w0:World} {s:ByteArray} {x y:Int} {w:World} (h:FirstT B w0 s x y w) (x' y':Int):FirstT B w0 s x' y' ((w.setCell ⟨B+1,0,none⟩ (.int .i64 x')).setCell ⟨B+2,0,none⟩ (.int .i64 y')):=by
 refine ⟨?_,?_,?_,h.pos,(h.below.setCell (show B≤B+1 by omega) _).setCell (show B≤B+2 by omega) _,?_⟩
 ·rw [Below.heap_setCell _ _ _ _ (show B≠B+2 by omega),Below.heap_setCell _ _ _ _ (show B≠B+1 by omega)]; exact h.txt
 ·rw [Below.heap_setCell _ _ _ _ (show B+1≠B+2 by omega)]; exact one_setCell h.pl
 ·exact one_setCell ((Below.heap_setCell _ _ _ _ (show B+2≠B+1 by omega)).trans h.er)
 ·obtain ⟨⟨t,fr,hk⟩,_⟩:=h.kw
  have hp:=h.pos
  refine Kw.of (t:=t) (fr:=fr) ?_
  rw [Below.heap_setCell _ _ _ _ (show (0:Nat)≠B+2 by omega),Below.heap_setCell _ _ _ _ (show (0:Nat)≠B+1 by omega)]; exact hk

theorem f1_no (T:Tok) (hT:T.k≠3) (B:Nat) (w0 w:World) (o:Obj) (s:ByteArray) (x:Int) (h:FirstT B w0 s x 0 w) :
  Calls Tryz.prog 169 #[T.v,.pointer (some ⟨B,0,none⟩),.pointer (some ⟨B+1,0,none⟩),.pointer (some ⟨B+2,0,none⟩)] (w.alloc o) fun e w'=>e=.returned (.bool true)∧FirstT B w0 s x 0 w'∧w'.heap[w.heap.size]?=some o:=by
 have hlt:=lt_of_block h.er
 obtain ⟨k,a,e⟩:=T
 have hT':(k == 3)=false:=by simpa using hT
 have hA:=h.step ((Below.refl _ _).alloc (Nat.le_refl _) o)
 have hA2:=hA.step ((Below.refl _ _).alloc (Nat.le_refl _) (.cells #[.int .i64 k,.int .i64 (a:Int),.int .i64 (e:Int)] 119))
 have c0:=cell_of_one hA2.er
 have HA:=Lib.hid hA2
 clear hA hA2 h hT
 simp only [Tok.v] at *
 go_enter Tryz.func169,Tryz.ntmps169
 go_wp2
 go_returns
 refine ⟨rfl,HA.out,?_⟩
 rw [heap_alloc_old _ _ (by simp)]
 exact heap_alloc_new w o

theorem far1 {w:World} {b k o:Nat} {v:Value} (x:Int) (h:w.cell? ⟨k,o,none⟩=some v) (hne:¬ k=b):(w.setCell ⟨b,0,none⟩ (.int .i64 x)).cell? ⟨k,o,none⟩=some v :=
 (World.cell?_of_block (Below.heap_setCell _ _ _ _ hne)).trans h
set_option maxHeartbeats 2000000 in
theorem f1_bad (a e:Nat) (B:Nat) (w0 w:World) (o:Obj) (s:ByteArray) (hs:s.size≤1000000) (ha:a < e) (he:e≤s.size) (x y:Int) (h:FirstT B w0 s x y w) :
  Calls Tryz.prog 169 #[(Tok.mk 3 a e).v,.pointer (some ⟨B,0,none⟩),.pointer (some ⟨B+1,0,none⟩),.pointer (some ⟨B+2,0,none⟩)] (w.alloc o) fun r w'=>r=.returned (.bool false)∧FirstT B w0 s a (badN s a) w'∧w'.heap[w.heap.size]?=some o:=by
 have hlt:=lt_of_block h.er
 have hA:=h.step ((Below.refl _ _).alloc (Nat.le_refl _) o)
 have hA2:=hA.step ((Below.refl _ _).alloc (Nat.le_refl _) (.cells #[.int .i64 3,.int .i64 (a:Int),.int .i64 (e:Int)] 119))
 have hbx:((w.alloc o).alloc (.cells #[.int .i64 3,.int .i64 (a:Int),.int .i64 (e:Int)] 119)).heap[w.heap.size]?=some o:=by
  rw [heap_alloc_old _ _ (by simp)]; exact heap_alloc_new w o
 have hbk:((w.alloc o).alloc (.cells #[.int .i64 3,.int .i64 (a:Int),.int .i64 (e:Int)] 119)).heap[w.heap.size+1]?=some (.cells #[.int .i64 3,.int .i64 (a:Int),.int .i64 (e:Int)] 119 (0,0)):=by
  have:=heap_alloc_new (w.alloc o) (.cells #[.int .i64 3,.int .i64 (a:Int),.int .i64 (e:Int)] 119); simpa using this
 have HBad:=fun W=>bad_any s hs a e ha he W
 have hn:(badN s a == 0)=false:=by unfold badN; cases (headB (s.data.toList.drop a) 34 || headB (s.data.toList.drop a) 40) <;> rfl
 generalize badN s a=q at *
 have HA:=Lib.hid hA2
 have HBX:=Lib.hid hbx
 have HBK:=Lib.hid hbk
 clear hA hA2 h hbx hbk
 simp only [Tok.v] at *
 go_enter Tryz.func169,Tryz.ntmps169
 go_wp2_with fail
 generalize hW:((w.alloc o).alloc (.cells #[.int .i64 3,.int .i64 (a:Int),.int .i64 (e:Int)] 119))=wa at *
 have hsz:wa.heap.size=w.heap.size+2:=by rw [← hW]; simp
 clear hW
 have HK:Own3 wa (w.heap.size+1) _ _ _ _:=⟨HBK.out⟩
 have a0:=HK.c0
 have a1:=HK.c1
 have a2:=HK.c2
 have a3:=cell_of_one HA.out.txt
 have f1:=free_of_one HA.out.pl
 have f2:=free_of_one HA.out.er
 have g1:=cell_of_one HA.out.pl
 have g2:=cell_of_one HA.out.er
 have n1:¬ B+1=w.heap.size+1:=by omega
 have n2:¬ B+2=w.heap.size+1:=by omega
 have n3:¬ w.heap.size+1=B+1:=by omega
 have n4:¬ w.heap.size+1=B+2:=by omega
 have m1:¬ B=B+1:=by omega
 have m2:¬ B=B+2:=by omega
 clear HK
 go_region_held3 (fun w'=>w'.cell? ⟨w.heap.size+1,0,none⟩=some (.int .i64 3)∧w'.cell? ⟨w.heap.size+1,1,none⟩=some (.int .i64 (a:Int))∧w'.cell? ⟨w.heap.size+1,2,none⟩=some (.int .i64 (e:Int))∧w'.cell? ⟨B,0,none⟩=some (.string s))
  (first
   | go_keep
   | (go_split_ands; refine ⟨?_,?_,?_,?_⟩ <;> (rw [hbp.cell (by simp; omega)]; assumption)))
  (first
   | (go_at_call 170; refine (HBad _).mono ?_; rintro r wp ⟨rfl,hbp⟩; have b1:=(hbp.cell (p:=⟨B+1,0,none⟩) (by simp; omega)).trans g1; have b2:=(hbp.cell (p:=⟨B+2,0,none⟩) (by simp; omega)).trans g2; have k1:=(hbp.frozen (p:=⟨B+1,0,none⟩) (by simp; omega)).trans f1; have k2:=(hbp.frozen (p:=⟨B+2,0,none⟩) (by simp; omega)).trans f2; have p0:=far1 (a:Int) ((hbp.cell (p:=⟨w.heap.size+1,0,none⟩) (by simp; omega)).trans a0) n3; have q0:=far1 q p0 n4; have p1:=far1 (a:Int) ((hbp.cell (p:=⟨w.heap.size+1,1,none⟩) (by simp; omega)).trans a1) n3; have q1:=far1 q p1 n4; have p2:=far1 (a:Int) ((hbp.cell (p:=⟨w.heap.size+1,2,none⟩) (by simp; omega)).trans a2) n3; have q2:=far1 q p2 n4))
 have HF:=(HA.out.step ((Below.refl wa.heap.size wa).drew.trans hbp)).put (a:Int) q
 have hbx2:((wp.setCell ⟨B+1,0,none⟩ (.int .i64 (a:Int))).setCell ⟨B+2,0,none⟩ (.int .i64 q)).heap[w.heap.size]?=some o:=by
  rw [Below.heap_setCell _ _ _ _ (show w.heap.size≠B+2 by omega),Below.heap_setCell _ _ _ _ (show w.heap.size≠B+1 by omega)]
  exact (hbp.block _ (show w.heap.size < wa.drew.heap.size by show w.heap.size < wa.heap.size; omega)).trans HBX.out
 generalize ((wp.setCell ⟨B+1,0,none⟩ (.int .i64 (a:Int))).setCell ⟨B+2,0,none⟩ (.int .i64 q))=W2 at *
 have z0:=cell_of_one HF.er
 have HF:=Lib.hid HF
 have HX2:=Lib.hid hbx2
 clear hbx2
 go_wp2
 go_returns
 exact ⟨rfl,HF.out,HX2.out⟩
def noBad (t:Tok):Bool:=!(t.k == 3)
/-- The first bad one of these, where it begins, and what is wrong. -/
def firstT (s:ByteArray):List Tok→Int × Int
 | []=>(s.size,0)
 | t :: r=>bif noBad t then firstT s r else ((t.a:Int),badN s t.a)
theorem firstT_snoc_no (s:ByteArray) (l:List Tok) (t:Tok) (h:noBad t=true):firstT s (l++[t])=firstT s l:=by
 induction l with
 | nil=>simp [firstT,h]
 | cons x r ih=>simp only [List.cons_append,firstT,ih]
theorem firstT_all (s:ByteArray) (l:List Tok) (h:∀ t ∈ l,noBad t=true):firstT s l=((s.size:Int),0):=by
 induction l with
 | nil=>rfl
 | cons x r ih=>simp only [firstT]; rw [h x (by simp),ih (fun t ht=>h t (by simp [ht]))]; rfl
theorem firstT_snoc_bad (s:ByteArray) (l:List Tok) (t:Tok) (h:∀ t ∈ l,noBad t=true) (ht:noBad t=false):firstT s (l++[t])=((t.a:Int),badN s t.a):=by
 induction l with
 | nil=>simp [firstT,ht]
 | cons x r ih=>simp only [List.cons_append,firstT]; rw [h x (by simp),ih (fun t ht=>h t (by simp [ht]))]; rfl
theorem firstT_upto (s:ByteArray) (l:List Tok) (hz:∀ t ∈ l.dropLast,t.k≠0):firstT s (uptoN noBad l)=firstT s l:=by
 induction l with
 | nil=>rfl
 | cons x r ih =>
  simp only [uptoN]
  cases hb:noBad x
  ·simp [firstT,hb]
  ·cases r with
   | nil=>cases x.k == 0 <;> simp [uptoN,firstT,hb]
   | cons y t =>
    have hk:(x.k == 0)=false:=by simpa using hz x (by simp)
    simp only [hk,Bool.not_false,Bool.and_true,cond_true,firstT,hb]
    exact ih (fun t ht=>hz t (by simp [List.dropLast] at ht ⊢; exact .inr ht))
/-- First of a text. -/
def firstN (s:ByteArray):Int × Int:=firstT s (scanT s)

set_option maxHeartbeats 1000000 in
theorem first_any (s:ByteArray) (hs:s.size≤1000000) (w:World) (hk:Kw w) :
  Calls Tryz.prog 117 #[.string s] w fun e w'=>e=.returned (.tuple #[.int .i64 (firstT s (uptoN noBad (restT s 0))).1,.int .i64 (firstT s (uptoN noBad (restT s 0))).2])∧Below w.heap.size w w':=by
 have h0:FirstT w.heap.size w s s.size 0 (((w.alloc (.cells #[.string s] 9)).alloc (.cells #[.int .i64 s.size] 3)).alloc (.cells #[.int .i64 0] 28)):=by
  refine ⟨?_,?_,?_,hk.pos,(((Below.refl _ _).alloc (Nat.le_refl _) _).alloc (by simp) _).alloc (by simp; omega) _,((hk.alloc _).alloc _).alloc _⟩
  ·rw [heap_alloc_old _ _ (by simp; omega),heap_alloc_old _ _ (by simp)]; exact heap_alloc_new w _
  ·rw [heap_alloc_old _ _ (by simp)]; have:=heap_alloc_new (w.alloc (.cells #[.string s] 9)) (.cells #[.int .i64 (s.size:Int)] 3); simpa using this
  ·have:=heap_alloc_new ((w.alloc (.cells #[.string s] 9)).alloc (.cells #[.int .i64 (s.size:Int)] 3)) (.cells #[.int .i64 0] 28); simpa using this
 have HE:=each_any noBad (fun l W=>FirstT w.heap.size w s (firstT s l).1 (firstT s l).2 W) 169 #[.pointer (some ⟨w.heap.size,0,none⟩),.pointer (some ⟨w.heap.size+1,0,none⟩),.pointer (some ⟨w.heap.size+2,0,none⟩)] cf17 s hs (fun l W W' h hb=>h.step hb) (fun l W h=>h.kw)
  (fun l a W o ha hl hg h=>by
   cases hb:noBad (tokAt s a)
   ·have hlt:a < s.size:=by
     apply Decidable.byContradiction
     intro hn
     have:a=s.size:=by omega
     rw [this,tokAt_end] at hb
     exact absurd hb (by simp [noBad])
    have h3:(tokAt s a).k=3:=by unfold noBad at hb; simpa using hb
    have hbo:=tokAt_bound s a hlt
    have haa:(tokAt s a).a=a:=by rw [tokAt_in s a hlt]
    rw [firstT_snoc_bad s l _ hg hb,haa]
    have e:tokAt s a=⟨3,a,(tokAt s a).e⟩:=by
     generalize tokAt s a=T at *
     obtain ⟨x,y,z⟩:=T
     simp only at h3 haa
     subst h3 haa
     rfl
    rw [e]
    exact f1_bad a (tokAt s a).e w.heap.size w W o s hs hbo.1 hbo.2 _ _ h
   ·rw [firstT_snoc_no s l _ hb]
    have h2:=firstT_all s l hg
    rw [h2] at h ⊢
    exact f1_no (tokAt s a) (by unfold noBad at hb; simpa using hb) w.heap.size w W o s _ h)
  _ h0
 have hmf:∀ (fn:Fn) (first cap:Array Value) (w:World),(Instr.makeFunc fn first cap).run Tryz.prog w=.ok (.func fn first cap) w:=fun _ _ _ _=>rfl
 clear h0 hk
 generalize firstT s (uptoN noBad (restT s 0))=q at *
 obtain ⟨x,y⟩:=q
 go_enter Tryz.func117,Tryz.ntmps117
 go_wp2_with fail
 refine HE.mono ?_
 rintro e w1 ⟨rfl,h1⟩
 have z1:=cell_of_one h1.pl
 have z2:=cell_of_one h1.er
 have H1:=Lib.hid h1
 clear h1
 go_wp2_with fail
 go_quiet (fail)
 go_wp2
 go_ret2
 exact ⟨rfl,below_drewN H1.out.below _⟩
end Go.Proofs.YtmpmfamiegpmgaaGreatDoor

namespace Go.Proofs.YtmpmfamiegpmgaaGreatDoor
open Go.RowKit
set_option maxRecDepth 20000
set_option linter.unusedVariables false
set_option linter.unusedSimpArgs false

theorem cellsT_at (l:List Tok) (i:Nat) (h:i < l.length):(cellsT l)[i * 3]?=some (.int .i64 l[i].k)∧(cellsT l)[i * 3+1]?=some (.int .i64 (l[i].a:Int))∧(cellsT l)[i * 3+2]?=some (.int .i64 (l[i].e:Int)):=by
 induction l generalizing i with
 | nil=>simp at h
 | cons x r ih =>
  cases i with
  | zero=>simp [cellsT]
  | succ i =>
   have:=ih i (by simpa using h)
   simp only [cellsT,show (i+1) * 3=i * 3+3 from by omega,show i * 3+3+1=(i * 3+1)+3 from by omega,show i * 3+3+2=(i * 3+2)+3 from by omega,List.getElem?_cons_succ,List.getElem_cons_succ]
   exact this
/-- Tokens lie one behind the other in a block. -/
def TokCells (w:World) (g:Nat) (l:List Tok):Prop :=
 ∀ i,(h:i < l.length)→w.cell? ⟨g,i * 3,none⟩=some (.int .i64 l[i].k)∧w.cell? ⟨g,i * 3+1,none⟩=some (.int .i64 (l[i].a:Int))∧w.cell? ⟨g,i * 3+2,none⟩=some (.int .i64 (l[i].e:Int))
theorem TokCells.step {w w1:World} {g:Nat} {l:List Tok} (h:TokCells w g l) (hb:g < w.heap.size) (hw:Below w.heap.size w w1):TokCells w1 g l:=fun i hi=>by
 obtain ⟨h0,h1,h2⟩:=h i hi
 exact ⟨(hw.cell (p:=⟨g,_,none⟩) hb).trans h0,(hw.cell (p:=⟨g,_,none⟩) hb).trans h1,(hw.cell (p:=⟨g,_,none⟩) hb).trans h2⟩
theorem ToksAt.open {w:World} {v:Value} {l:List Tok} (h:ToksAt w v l) (hl:0 < l.length):∃ g c,v=.slice (some ⟨g,0,none⟩) l.length c∧l.length≤c∧c≤maxLen∧g < w.heap.size∧TokCells w g l:=by
 obtain ⟨base,h⟩:=h
 rcases h.2 with ⟨_,h0⟩ | ⟨g,cap,cur,rfl,hg,hh,hc,hm,hs,ht⟩
 ·omega
 ·refine ⟨g,cap,rfl,hc,hm,lt_of_block hh,fun i hi=>?_⟩
  have hx:=cellsT_at l i hi
  have e:=fun j (hj:j < l.length * 3)=>h.cellAt j hj
  exact ⟨(e _ (by omega)).trans hx.1,(e _ (by omega)).trans hx.2.1,(e _ (by omega)).trans hx.2.2⟩
theorem no_any (x:Int) (w:World):Calls Tryz.prog 21 #[.int .i64 x] w fun e w'=>e=.returned (.int .i64 x)∧w=w':=by
 go_enter Tryz.func21,Tryz.ntmps21
 go_wp2
 go_ret
 exact ⟨rfl,rfl⟩
theorem info3:(Tryz.prog.info? 3).map (fun i=>(i.zero,i.size,i.bytes))=some (some (.int .i64 0),1,8):=by kernel_rfl
def kindCells (l:List Tok):List Value:=l.map fun t=>.int .i64 t.k
/-- Numbers lie one behind the other in a block. -/
def IntCells (w:World) (g:Nat) (l:List Int):Prop:=∀ i,(h:i < l.length)→w.cell? ⟨g,i,none⟩=some (.int .i64 l[i])
end Go.Proofs.YtmpmfamiegpmgaaGreatDoor
