/-
  The bytes that pass asks of, and the two closures that remember.; quoted, note, plain, by the way of the program.; token: the token at a place.; each: hands on the tokens, for any function that takes them.; those: the tokens whose kinds are as asked.; Scan, Words, part, Bad, First.; part, Bad, First.; Rows of tokens as they lie; kinds, Ints, No.
-/
import Derived.Test.YtmpmfamiegpmgaaGreatDoorGA
import Derived.Lib.QuietBelow
import Derived.OneCell
import Derived.Deep.AppendLies
import Derived.Laws.OwnMore
import Derived.OwnWalk
import Derived.Deep.RegionHeld3
namespace Go.Proofs.YtmpmfamiegpmgaaGreatDoor
open Tryz
open Go.Lib (hid toList_data)
open Go.RowKit
set_option linter.unusedVariables false
set_option linter.unusedSimpArgs false
theorem xX (c:UInt8) (w:World):Calls prog 260 #[.int .u8 (c.toNat:Int)] w fun e w'=>e=.returned (.bool (gI c))∧w=w':=by
 have hc:=c.toNat_lt;have HB:Hid (gI c=(((c.toNat:Int) == 32) || ((c.toNat:Int) == 9) || ((c.toNat:Int) == 10) || ((c.toNat:Int) == 13))):=hid rfl
 go_enter func260,ntmps260
 go_wp2
 all_goals
  go_ret
  exact ⟨aK (by simp [HB.out, *]),rfl⟩
theorem rH (c:UInt8) (w:World):Calls prog 295 #[.int .u8 (c.toNat:Int)] w fun e w'=>e=.returned (.bool (jv c))∧w=w':=by
 have hc:=c.toNat_lt
 by_cases h1:48≤c.toNat
 ·have h:Hid (jv c=decide ((c.toNat:Int)≤57)):=hid (by unfold jv; rw [Bool.eq_iff_iff]; simp; omega)
  go_enter func295,ntmps295
  go_wp2
  go_ret
  exact ⟨aK h.out.symm,rfl⟩
 ·have h:Hid (jv c=false):=hid (by unfold jv; simp; omega)
  go_enter func295,ntmps295
  go_wp2
  go_ret
  exact ⟨aK h.out.symm,rfl⟩
theorem L9 (c:UInt8) (w:World):Calls prog 292 #[.int .u8 (c.toNat:Int)] w fun e w'=>e=.returned (.bool (pg c))∧w=w':=by
 have hc:=c.toNat_lt;have HB:Hid (pg c=!((c.toNat:Int) == 10)):=hid rfl
 go_enter func292,ntmps292
 go_wp2
 all_goals
  go_ret
  exact ⟨aK (by rw [HB.out]; simp [*,bne]),rfl⟩
theorem yg (c:UInt8) (w:World):Calls prog 267 #[.int .u8 (c.toNat:Int)] w fun e w'=>e=.returned (.bool (dH c))∧w=w':=by
 have hc:=c.toNat_lt;have HS:Hid (dH c=decide (0≤Lib.indexByte qO c)):=hid (Lib.contains_iff_indexByte qO c);have H1:∀ w,Calls prog 155 #[.string ⟨#[33,37,38,36,35,43,45,47,58,60,61,62,63,64,92,126,96,94,124,42]⟩,.int .u8 (c.toNat:Int)] w fun e w'=>e=.returned (.int .i64 (Lib.indexByte qO c))∧w'=w:=fun w=>by
  have h:=strings_IndexByte ⟨#[33,37,38,36,35,43,45,47,58,60,61,62,63,64,92,126,96,94,124,42]⟩ (c.toNat:Int) w;have hcc:((c.toNat:Int)).toNat.toUInt8=c:=by simp
  rw [hcc] at h;exact h
 generalize Lib.indexByte qO c=x at *
 go_enter func267,ntmps267
 go_wp2_with (go_at_call 155; refine (H1 _).mono ?_; rintro e w1 ⟨rfl,rfl⟩)
 go_ret
 exact ⟨aK (by rw [HS.out]),rfl⟩
theorem xN (c:UInt8) (w:World):Calls prog 265 #[.int .u8 (c.toNat:Int)] w fun e w'=>e=.returned (.bool (dI c))∧w=w':=by
 have hc:=c.toNat_lt;have H3:=fun w=>rH c w
 have HR:Hid (dI c=(jO c || lT c || jv c || ((c.toNat:Int) == 95) || ((c.toNat:Int) == 39))):=hid rfl;have HL:Hid (jO c=(decide (97≤(c.toNat:Int)) && decide ((c.toNat:Int)≤122))):=hid (by unfold jO; rw [Bool.eq_iff_iff]; simp; omega);have HC:Hid (lT c=(decide (65≤(c.toNat:Int)) && decide ((c.toNat:Int)≤90))):=hid (by unfold lT; rw [Bool.eq_iff_iff]; simp; omega)
 cases h3:jv c <;> simp only [h3] at H3 HR <;> clear h3
 all_goals
  go_enter func265,ntmps265
  go_wp2_with (go_at_call 295; refine (H3 _).mono ?_; rintro e w1 ⟨rfl,rfl⟩)
 all_goals
  go_ret
  refine ⟨aK ?_,rfl⟩
  rw [HR.out,HL.out,HC.out,Bool.eq_iff_iff]
  simp [*]
  try omega
theorem TC (e:Bool) (c:UInt8) (B:Nat) (w:World) (h:w.heap[B]?=some (.cells #[.bool e] 4 (0,0))) :
  Calls prog 291 #[.int .u8 (c.toNat:Int),.pointer (some ⟨B,0,none⟩)] w fun r w'=>r=.returned (.bool (qF e c).2)∧w'=w.setCell ⟨B,0,none⟩ (.bool (qF e c).1):=by
 have hc:=c.toNat_lt;have hC:=cell_of_one h;have hF:=free_of_one h;clear h
 cases e
 ·have H1:Hid (qF false c=(((c.toNat:Int) == 92),!((c.toNat:Int) == 34) && !((c.toNat:Int) == 10))):=hid rfl
  go_enter func291,ntmps291
  go_wp2
  all_goals
   go_ret
   rw [H1.out];exact ⟨aK (by simp [*,bne]),by simp [*]⟩
 ·have H1:Hid (qF true c=(false,((c.toNat:Int) == 34) || ((c.toNat:Int) == 92) || ((c.toNat:Int) == 110) || ((c.toNat:Int) == 116))):=hid rfl
  go_enter func291,ntmps291
  go_wp2
  all_goals
   go_ret
   rw [H1.out];exact ⟨aK (by simp [*]),by simp [*]⟩
theorem Gt {w:World} {B:Nat} {x y u:Value} {s t:TypeId} (hd:w.heap[B]?=some (.cells #[x] s (0,0))) (hg:w.heap[B+1]?=some (.cells #[y] t (0,0))) :
  (w.setCell ⟨B+1,0,none⟩ u).heap[B]?=some (.cells #[x] s (0,0))∧(w.setCell ⟨B+1,0,none⟩ u).heap[B+1]?=some (.cells #[u] t (0,0))∧Below B w (w.setCell ⟨B+1,0,none⟩ u) :=
 ⟨(Below.heap_setCell _ _ _ _ (show B≠B+1 by omega)).trans hd,one_setCell hg,(Below.refl _ _).setCell (show B≤B+1 by omega) _⟩
theorem Bi {w:World} {B:Nat} {x y u v:Value} {s t:TypeId} (hd:w.heap[B]?=some (.cells #[x] s (0,0))) (hg:w.heap[B+1]?=some (.cells #[y] t (0,0))) :
  ((w.setCell ⟨B,0,none⟩ v).setCell ⟨B+1,0,none⟩ u).heap[B]?=some (.cells #[v] s (0,0))∧((w.setCell ⟨B,0,none⟩ v).setCell ⟨B+1,0,none⟩ u).heap[B+1]?=some (.cells #[u] t (0,0))∧Below B w ((w.setCell ⟨B,0,none⟩ v).setCell ⟨B+1,0,none⟩ u):=by
 have h:=Gt (w:=w.setCell ⟨B,0,none⟩ v) (B:=B) (u:=u) (one_setCell hd) ((Below.heap_setCell _ _ _ _ (show B+1≠B by omega)).trans hg);exact ⟨h.1,h.2.1,((Below.refl _ _).setCell (show B≤B by omega) _).trans h.2.2⟩
set_option maxHeartbeats 1000000 in
theorem TR (d:Int) (g c:UInt8) (B:Nat) (w:World) (hd:w.heap[B]?=some (.cells #[.int .i64 d] 3 (0,0))) (hg:w.heap[B+1]?=some (.cells #[.int .u8 (g.toNat:Int)] 5 (0,0)))
  (h0:-1000000≤d) (h1:d≤1000000) :
  Calls prog 294 #[.int .u8 (c.toNat:Int),.pointer (some ⟨B+1,0,none⟩),.pointer (some ⟨B,0,none⟩)] w fun r w'=>r=.returned (.bool (nF (d,g) c).2) ∧
   w'.heap[B]?=some (.cells #[.int .i64 (nF (d,g) c).1.1] 3 (0,0))∧w'.heap[B+1]?=some (.cells #[.int .u8 ((nF (d,g) c).1.2.toNat:Int)] 5 (0,0))∧Below B w w':=by
 have hc:=c.toNat_lt;have hgt:=g.toNat_lt;have hDC:=cell_of_one hd;have hDF:=free_of_one hd;have hGC:=cell_of_one hg;have hGF:=free_of_one hg;have HD:=hid hd;have HG:=hid hg;clear hd hg;have HX:Hid (decide (1 < d)=decide (0 < d - 1)):=hid (decide_eq_decide.2 (by omega));have hne:(B:Nat)≠B+1:=by omega
 cases e1:((g.toNat:Int) == 40) <;> cases e2:((c.toNat:Int) == 42) <;> cases e3:((g.toNat:Int) == 42) <;> cases e4:((c.toNat:Int) == 41)
 all_goals
  have HN:Hid (nF (d,g) c=bif ((g.toNat:Int) == 40) && ((c.toNat:Int) == 42) then ((d+1,0),true) else bif ((g.toNat:Int) == 42) && ((c.toNat:Int) == 41) then ((d - 1,0),decide (0 < d - 1)) else ((d,c),true)):=hid rfl;simp only [e1,e2,e3,e4,Bool.and_true,Bool.and_false,cond_true,cond_false] at HN
 all_goals
  go_enter func294,ntmps294
  go_wp2
  go_ret
  rw [HN.out]
  first
   | exact ⟨aK rfl,Gt HD.out HG.out⟩
   | exact ⟨aK rfl,Bi HD.out HG.out⟩
   | exact ⟨aK HX.out,Bi HD.out HG.out⟩
theorem aV {f:FuncId} {fn:Func} (hf:prog.funcs[f]?=some fn) (hname:(fn.name == "runtime.NumGoroutine")=false) (hb:fn.body.isNone=false) (args:Array Value) (w:World) :
  Sem.run prog (callFunc f args) w=.ok (.enter f args) w:=by
 have h1:fn.name ≠ "runtime.NumGoroutine":=by simpa using hname
 show (callFunc f args).run prog w=.ok (.enter f args) w
 obtain ⟨c,hc⟩:∃ c,fn.body=some c:=by cases e:fn.body <;> simp_all
 simp [callFunc,hf,h1,hc]
theorem Zf (args:Array Value) (w:World):Sem.run prog (callFunc 260 args) w=.ok (.enter 260 args) w:=aV func260 (by kernel_rfl) (by kernel_rfl) args w
theorem ZT (args:Array Value) (w:World):Sem.run prog (callFunc 265 args) w=.ok (.enter 265 args) w:=aV func265 (by kernel_rfl) (by kernel_rfl) args w
theorem Zz (args:Array Value) (w:World):Sem.run prog (callFunc 267 args) w=.ok (.enter 267 args) w:=aV func267 (by kernel_rfl) (by kernel_rfl) args w
theorem ZM (args:Array Value) (w:World):Sem.run prog (callFunc 291 args) w=.ok (.enter 291 args) w:=aV func291 (by kernel_rfl) (by kernel_rfl) args w
theorem Z5 (args:Array Value) (w:World):Sem.run prog (callFunc 292 args) w=.ok (.enter 292 args) w:=aV func292 (by kernel_rfl) (by kernel_rfl) args w
theorem ZW (args:Array Value) (w:World):Sem.run prog (callFunc 294 args) w=.ok (.enter 294 args) w:=aV func294 (by kernel_rfl) (by kernel_rfl) args w
theorem Zj (args:Array Value) (w:World):Sem.run prog (callFunc 295 args) w=.ok (.enter 295 args) w:=aV func295 (by kernel_rfl) (by kernel_rfl) args w
theorem lU (g:UInt8→Bool) (n:Nat) (hcf:∀ args w,Sem.run prog (callFunc n args) w=.ok (.enter n args) w) (hg:∀ c w,Calls prog n #[.int .u8 (c.toNat:Int)] w fun e w'=>e=.returned (.bool (g c))∧w=w')
  (s:ByteArray) (hs:s.size≤1000000) (at0:Nat) (ha:at0≤s.size) (w:World) :
  Calls prog 261 #[.string s,.int .i64 at0,.func (.func n) #[] #[]] w fun e w'=>e=.returned (.int .i64 ((at0+aQ (cu g) () (s.data.toList.drop at0):Nat)))∧w=w':=by
 refine (uK (cu g) (fun _ _ w'=>w=w') n #[] hcf s hs ?_ at0 ha () w rfl).mono ?_
 ·rintro k q c w' hk rfl
  refine (hg c w).mono ?_
  rintro e w' ⟨rfl,rfl⟩;exact ⟨rfl,rfl⟩
 ·rintro e w' ⟨rfl,k,q,h⟩
  exact ⟨rfl,h⟩
theorem BQ (s:ByteArray) (k:Nat) (h:k < s.size) (n:Int):headB (s.data.toList.drop k) n=((s[k].toNat:Int) == n):=by
 rw [drop_at s k h]; rfl
theorem IE (s:ByteArray) (k:Nat) (h:s.size≤k) (n:Int):headB (s.data.toList.drop k) n=false:=by
 rw [List.drop_eq_nil_of_le (by rw [bT]; exact h)]; rfl
set_option maxHeartbeats 1000000 in
theorem Ep (s:ByteArray) (hs:s.size≤1000000) (at0:Nat) (ha:at0 < s.size) (w:World) :
  Calls prog 262 #[.string s,.int .i64 at0] w fun e w'=>e=.returned (.tuple #[.int .i64 (gQ (s.data.toList.drop (at0+1))).1,.int .i64 ((at0+(gQ (s.data.toList.drop (at0+1))).2:Nat):Int)])∧Below w.heap.size w w':=by
 have hl:=eu qF false (s.data.toList.drop (at0+1));rw [List.length_drop,bT] at hl;obtain ⟨E,hE⟩:∃ E,E=at0+1+aQ qF false (s.data.toList.drop (at0+1)):=⟨_,rfl⟩
 have hEs:E≤s.size:=by omega
 have hE1:at0+1≤E:=by omega
 have hd:(s.data.toList.drop (at0+1)).drop (aQ qF false (s.data.toList.drop (at0+1)))=s.data.toList.drop E:=by rw [List.drop_drop,hE]
 have HQ:gQ (s.data.toList.drop (at0+1))=bif headB (s.data.toList.drop E) 34 then (5,E - at0+1) else (3,E - at0+aQ (cu pg) () (s.data.toList.drop E)):=by
  unfold gQ
  simp only
  rw [hd]
  cases headB (s.data.toList.drop E) 34
  ·simp only [cond_false]; rw [show aQ qF false (s.data.toList.drop (at0+1))+1=E - at0 from by omega]
  ·simp only [cond_true]; rw [show aQ qF false (s.data.toList.drop (at0+1))+2=E - at0+1 from by omega]
 have HP:Calls prog 261 #[.string s,.int .i64 ((at0:Int)+1),.func (.func 291) #[] #[.pointer (some ⟨w.heap.size,0,none⟩)]] (w.alloc (.cells #[.bool false] 4)) fun e w'=>e=.returned (.int .i64 (E:Int))∧Below w.heap.size w w':=by
  have h0:(w.alloc (.cells #[.bool false] 4)).heap[w.heap.size]?=some (.cells #[.bool false] 4 (0,0)):=heap_alloc_new w _;refine (show (at0:Int)+1=((at0+1:Nat):Int) from by omega) ▸ (uK qF (fun _ q w'=>w'.heap[w.heap.size]?=some (.cells #[.bool q] 4 (0,0))∧Below w.heap.size w w') 291 #[.pointer (some ⟨w.heap.size,0,none⟩)] ZM s hs ?_ (at0+1) ha false _ ⟨h0,(Below.refl _ _).alloc (Nat.le_refl _) _⟩).mono ?_
  ·rintro k q c w' hk ⟨hc,hb⟩
   refine (TC q c w.heap.size w' hc).mono ?_
   rintro e w1 ⟨rfl,rfl⟩;exact ⟨rfl,one_setCell hc,hb.setCell (Nat.le_refl _) _⟩
  ·rintro e w' ⟨rfl,k,q,hc,hb⟩
   exact ⟨by rw [hE],hb⟩
 have HL:=fun W=>lU pg 292 Z5 L9 s hs E hEs W
 have hmf:∀ (fn:Fn) (first cap:Array Value) (w:World),(Instr.makeFunc fn first cap).run prog w=.ok (.func fn first cap) w:=fun _ _ _ _=>rfl
 have hl2:=eu (cu pg) () (s.data.toList.drop E);rw [List.length_drop,bT] at hl2;generalize aQ (cu pg) () (s.data.toList.drop E)=m at *;clear hE hd hl
 by_cases hlt:E < s.size
 ·rw [BQ s E hlt] at HQ
  have HQ:=hid HQ
  cases he:((s[E].toNat:Int) == 34) <;> rw [he] at HQ
  ·go_enter func262,ntmps262
   go_wp2_with fail
   refine HP.mono ?_
   rintro e w1 ⟨rfl,hb⟩
   go_wp2_with fail
   refine (HL w1).mono ?_
   rintro e w2 ⟨rfl,rfl⟩
   go_wp2_with fail
   go_ret2
   rw [HQ.out];exact ⟨by simp; omega,hb⟩
  ·go_enter func262,ntmps262
   go_wp2_with fail
   refine HP.mono ?_
   rintro e w1 ⟨rfl,hb⟩
   go_wp2_with fail
   go_ret2
   rw [HQ.out];exact ⟨by simp; omega,hb⟩
 ·rw [IE s E (by omega)] at HQ
  have HQ:=hid HQ
  go_enter func262,ntmps262
  go_wp2_with fail
  refine HP.mono ?_
  rintro e w1 ⟨rfl,hb⟩
  go_wp2_with fail
  refine (HL w1).mono ?_
  rintro e w2 ⟨rfl,rfl⟩
  go_wp2_with fail
  go_ret2
  rw [HQ.out];exact ⟨by simp; omega,hb⟩
theorem NF (q:Int × UInt8) (c:UInt8) (k:Int) (h:-k≤q.1∧q.1≤k):-(k+1)≤(nF q c).1.1∧(nF q c).1.1≤k+1:=by
 unfold nF
 cases eqB q.2 40 && eqB c 42 <;> cases eqB q.2 42 && eqB c 41 <;> simp <;> omega
set_option maxHeartbeats 1000000 in
theorem note_any (s:ByteArray) (hs:s.size≤1000000) (at0:Nat) (ha:at0 < s.size) (w:World) :
  Calls prog 264 #[.string s,.int .i64 at0] w fun e w'=>e=.returned (.tuple #[.int .i64 (ja (s.data.toList.drop at0)).1,.int .i64 ((at0+(ja (s.data.toList.drop at0)).2:Nat):Int)])∧Below w.heap.size w w':=by
 have hl:=eu nF (0,0) (s.data.toList.drop at0);have hlen:(s.data.toList.drop at0).length=s.size - at0:=by rw [List.length_drop,bT]
 rw [hlen] at hl;obtain ⟨E,hE⟩:∃ E,E=at0+aQ nF (0,0) (s.data.toList.drop at0):=⟨_,rfl⟩
 have hEs:E≤s.size:=by omega
 have hE1:at0≤E:=by omega
 have HQ:ja (s.data.toList.drop at0)=bif E == s.size then (3,E - at0) else (2,E - at0+1):=by
  unfold ja
  simp only
  rw [hlen]
  have:(aQ nF (0,0) (s.data.toList.drop at0) == s.size - at0)=(E == s.size):=by rw [Bool.eq_iff_iff]; simp; omega
  rw [this]
  cases E == s.size
  ·simp only [cond_false]; rw [show aQ nF (0,0) (s.data.toList.drop at0)=E - at0 from by omega]
  ·simp only [cond_true]; rw [show aQ nF (0,0) (s.data.toList.drop at0)=E - at0 from by omega]
 have HP:Calls prog 261 #[.string s,.int .i64 at0,.func (.func 294) #[] #[.pointer (some ⟨w.heap.size+1,0,none⟩),.pointer (some ⟨w.heap.size,0,none⟩)]] ((w.alloc (.cells #[.int .i64 0] 3)).alloc (.cells #[.int .u8 0] 5)) fun e w'=>e=.returned (.int .i64 (E:Int))∧Below w.heap.size w w':=by
  have h1:((w.alloc (.cells #[.int .i64 0] 3)).alloc (.cells #[.int .u8 0] 5)).heap[w.heap.size+1]?=some (.cells #[.int .u8 0] 5 (0,0)):=by
   have:=heap_alloc_new (w.alloc (.cells #[.int .i64 0] 3)) (.cells #[.int .u8 0] 5)
   simpa using this
  have h0:((w.alloc (.cells #[.int .i64 0] 3)).alloc (.cells #[.int .u8 0] 5)).heap[w.heap.size]?=some (.cells #[.int .i64 0] 3 (0,0)):=by
   rw [heap_alloc_old _ _ (by simp)]; exact heap_alloc_new w _
  refine (uK nF (fun k q w'=>(-(k:Int)≤q.1∧q.1≤k)∧w'.heap[w.heap.size]?=some (.cells #[.int .i64 q.1] 3 (0,0))∧w'.heap[w.heap.size+1]?=some (.cells #[.int .u8 (q.2.toNat:Int)] 5 (0,0))∧Below w.heap.size w w') 294 #[.pointer (some ⟨w.heap.size+1,0,none⟩),.pointer (some ⟨w.heap.size,0,none⟩)] ZW s hs ?_ at0 (by omega) (0,0) _ ⟨⟨by simp,by simp⟩,h0,h1,((Below.refl _ _).alloc (Nat.le_refl _) _).alloc (by simp) _⟩).mono ?_
  ·rintro k ⟨d,g⟩ c w' hk ⟨hb,hd,hg,hbe⟩
   refine (TR d g c w.heap.size w' hd hg (by have:=hb.1; simp at this; omega) (by have:=hb.2; simp at this; omega)).mono ?_
   rintro e w1 ⟨rfl,h1,h2,h3⟩;exact ⟨rfl,by have:=NF (d,g) c k hb; simpa using this,h1,h2,hbe.trans h3⟩
  ·rintro e w' ⟨rfl,k,q,_,_,_,hb⟩
   exact ⟨by rw [hE],hb⟩
 have hmf:∀ (fn:Fn) (first cap:Array Value) (w:World),(Instr.makeFunc fn first cap).run prog w=.ok (.func fn first cap) w:=fun _ _ _ _=>rfl
 clear hE hl hlen
 cases he:(E == s.size) <;> rw [he] at HQ
 ·have hne:¬ E=s.size:=by simpa using he
  have hlt:E < s.size:=by omega
  have HQ:=hid HQ;clear he hne
  go_enter func264,ntmps264
  go_wp2_with fail
  refine HP.mono ?_
  rintro e w1 ⟨rfl,hb⟩
  go_wp2_with fail
  go_ret2
  rw [HQ.out];exact ⟨by simp; omega,hb⟩
 ·have hle:s.size=E:=by simp at he; omega
  have HQ:=hid HQ;clear he
  go_enter func264,ntmps264
  go_wp2_with fail
  refine HP.mono ?_
  rintro e w1 ⟨rfl,hb⟩
  go_wp2_with fail
  go_ret2
  rw [HQ.out];exact ⟨by simp; omega,hb⟩
theorem JK (p:ByteArray):bsOf p.data.toList=p:=by unfold bsOf; cases p; simp
theorem Je (p:ByteArray) (h:0 < p.size):dA p.data.toList=bif jv p[0] then (bif aQ (cu jv) () p.data.toList == p.size then 4 else 3) else bif eH p == 0 then 3 else eH p:=by
 have e:p.data.toList=p[0] :: p.data.toList.drop 1:=by have:=drop_at p 0 h; simpa using this
 unfold dA;rw [JK,bT];rw [e]
set_option maxHeartbeats 1000000 in
theorem rJ (p:ByteArray) (hs:p.size≤1000000) (h:0 < p.size) (w:World) (hk:Kw w) :
  Calls prog 266 #[.string p] w fun e w'=>e=.returned (.int .i64 (dA p.data.toList))∧w=w':=by
 have HK:=LC p w hk (by omega);have HD:=rH p[0] w;have HP:=lU jv 295 Zj rH p hs 0 (by omega) w;rw [List.drop_zero,Nat.zero_add] at HP;have HN:=Je p h;have hl:=eu (cu jv) () p.data.toList;rw [bT] at hl;clear hk;generalize aQ (cu jv) () p.data.toList=m at *;generalize eH p=K at *
 cases hd:jv p[0] <;> rw [hd] at HD HN <;> clear hd
 ·cases hz:(K == 0) <;> rw [hz] at HN
  all_goals
   have HN:=hid HN
   go_enter func266,ntmps266
   go_wp2_with fail
   refine HK.mono ?_
   rintro e w1 ⟨rfl,rfl⟩
   go_wp2_with fail
   refine HD.mono ?_
   rintro e w1 ⟨rfl,rfl⟩
   go_wp2_with fail
   go_ret
   exact ⟨dD HN.out.symm,rfl⟩
 ·cases hz:(m == p.size) <;> rw [hz] at HN
  ·have hne:¬ m=p.size:=by simpa using hz
   have HN:=hid HN;clear hz
   go_enter func266,ntmps266
   go_wp2_with fail
   refine HK.mono ?_
   rintro e w1 ⟨rfl,rfl⟩
   go_wp2_with fail
   refine HD.mono ?_
   rintro e w1 ⟨rfl,rfl⟩
   go_wp2_with fail
   refine HP.mono ?_
   rintro e w1 ⟨rfl,rfl⟩
   go_wp2_with fail
   go_ret
   exact ⟨dD HN.out.symm,rfl⟩
  ·have hne:m=p.size:=by simpa using hz
   have HN:=hid HN;clear hz;subst hne
   go_enter func266,ntmps266
   go_wp2_with fail
   refine HK.mono ?_
   rintro e w1 ⟨rfl,rfl⟩
   go_wp2_with fail
   refine HD.mono ?_
   rintro e w1 ⟨rfl,rfl⟩
   go_wp2_with fail
   refine HP.mono ?_
   rintro e w1 ⟨rfl,rfl⟩
   go_wp2_with fail
   go_ret
   exact ⟨dD HN.out.symm,rfl⟩
theorem Iq (s:ByteArray) (a:Nat) (h:a < s.size):Lib.hasPrefix (s.extract a s.size).data.toList [40,42]=(eqB s[a] 40 && headB (s.data.toList.drop (a+1)) 42):=by
 have e1:(s.extract a s.size).data.toList=s.data.toList.drop a:=by
  rw [Lib.extract_data,List.take_of_length_le (by rw [List.length_drop,bT]; omega)]
 rw [e1,drop_at s a h]
 cases hr:s.data.toList.drop (a+1) with
 | nil=>simp [headB,Lib.hasPrefix,List.isPrefixOf]
 | cons d r =>
  unfold headB eqB Lib.hasPrefix;simp only [List.isPrefixOf,Bool.and_true];rw [show ((40:UInt8) == s[a])=((s[a].toNat:Int) == 40) from by rw [Bool.eq_iff_iff]; simp only [beq_iff_eq,Mc]; constructor <;> intro h <;> exact h.symm];rw [show ((42:UInt8) == d)=((d.toNat:Int) == 42) from by rw [Bool.eq_iff_iff]; simp only [beq_iff_eq,Mc]; constructor <;> intro h <;> exact h.symm]
theorem extract_drop (s:ByteArray) (a n:Nat):(s.extract a (a+n)).data.toList=(s.data.toList.drop a).take n:=by
 rw [Lib.extract_data,show a+n - a=n from by omega]
theorem Qn (s:ByteArray) (a:Nat) (h:a < s.size):dJ (s.data.toList.drop a) =
  bif gI s[a] then (1,aQ (cu gI) () (s.data.toList.drop a))
  else bif ((s[a].toNat:Int) == 34) then gQ (s.data.toList.drop (a+1))
  else bif Lib.hasPrefix (s.extract a s.size).data.toList [40,42] then ja (s.data.toList.drop a)
  else bif dI s[a] then (dA (s.extract a (a+aQ (cu dI) () (s.data.toList.drop a))).data.toList,aQ (cu dI) () (s.data.toList.drop a))
  else bif dH s[a] then (dA (s.extract a (a+aQ (cu dH) () (s.data.toList.drop a))).data.toList,aQ (cu dH) () (s.data.toList.drop a))
  else (dA (s.extract a (a+1)).data.toList,1):=by
 rw [Iq s a h,extract_drop,extract_drop,extract_drop,drop_at s a h]
 rfl
theorem Ih (s:ByteArray) (w:World) (hs:s.size≤1000000) :
  Calls prog 225 #[.string s,.int .i64 s.size] w fun e w'=>e=.returned (.agg #[.int .i64 0,.int .i64 s.size,.int .i64 s.size])∧Below w.heap.size w w':=by
 go_enter func225,ntmps225
 go_wp2
 go_returns
 exact ⟨rfl,(Below.refl _ _).alloc (Nat.le_refl _) _⟩
def Zq (a:Nat) (t:Int × Nat):Value:=.agg #[.int .i64 t.1,.int .i64 a,.int .i64 ((a+t.2:Nat):Int)]
theorem Kw.alloc {w:World} (h:Kw w) (o:Obj):Kw (w.alloc o):=h.step ((Below.refl _ _).alloc (Nat.le_refl _) o)
theorem vY (s:ByteArray) (a n:Nat) (h:a+n≤s.size) (w:World):Sem.run prog (Instr.slice 9 (.string s) (some (.int .i64 a)) (some (.int .i64 ((a:Int)+(n:Int)))) none) w=.ok (.string (s.extract a (a+n))) w:=by
 have:=run_slice_string (P:=prog) (w:=w) 9 s .i64 .i64 (a:Int) ((a:Int)+(n:Int)) underlying9 (by omega) (by omega) (by omega)
 have e:((a:Int)+(n:Int)).toNat=a+n:=by omega
 rw [e,show (a:Int).toNat=a from by omega] at this;exact this
structure Own3 (w:World) (b:Nat) (x y z:Value) (T:TypeId):Prop where
 cells:w.heap[b]?=some (.cells #[x,y,z] T (0,0))
theorem Own3.c0 {w:World} {b:Nat} {x y z:Value} {T:TypeId} (h:Own3 w b x y z T):w.cell? ⟨b,0,none⟩=some x:=by simp [World.cell?,h.cells]
theorem Own3.c1 {w:World} {b:Nat} {x y z:Value} {T:TypeId} (h:Own3 w b x y z T):w.cell? ⟨b,1,none⟩=some y:=by simp [World.cell?,h.cells]
theorem Own3.c2 {w:World} {b:Nat} {x y z:Value} {T:TypeId} (h:Own3 w b x y z T):w.cell? ⟨b,2,none⟩=some z:=by simp [World.cell?,h.cells]
theorem Own3.f {w:World} {b:Nat} {x y z:Value} {T:TypeId} (h:Own3 w b x y z T) (k:Nat):w.frozen? ⟨b,k,none⟩=false:=by simp [World.frozen?,h.cells]
theorem oH {w:World} {b k:Nat} {xs:Array Value} {u:Value} {t:TypeId} (h:w.heap[b]?=some (.cells xs t (0,0))):(w.setCell ⟨b,k,none⟩ u).heap[b]?=some (.cells (xs.setIfInBounds k u) t (0,0)):=by
 have hlt:=lt_of_block h;have h':w.heap[b]=.cells xs t (0,0):=by simpa [Array.getElem?_eq_getElem hlt] using h
 show (w.heap.modify b _)[b]?=_
 rw [Array.getElem?_eq_getElem (by simpa using hlt),Array.getElem_modify_self,h']
 rfl
theorem Own3.set {w:World} {b:Nat} {x y z:Value} {T:TypeId} (h:Own3 w b x y z T) (x' y' z':Value):Own3 (((w.setCell ⟨b,0,none⟩ x').setCell ⟨b,1,none⟩ y').setCell ⟨b,2,none⟩ z') b x' y' z' T :=
 ⟨oH (oH (oH h.cells))⟩
set_option maxHeartbeats 4000000 in
theorem Jd (s:ByteArray) (hs:s.size≤1000000) (a:Nat) (ha:a < s.size) (w:World) (hk:Kw w) :
  Calls prog 225 #[.string s,.int .i64 a] w fun e w'=>e=.returned (Zq a (dJ (s.data.toList.drop a)))∧Below w.heap.size w w':=by
 have hT:=Qn s a ha;have HB:=fun W=>xX s[a] W
 have HR:=fun W=>xN s[a] W
 have HS:=fun W=>yg s[a] W
 have HH:=fun W=>strings_HasPrefix (s.extract a s.size) ⟨#[40,42]⟩ W
 have hhd:(⟨#[40,42]⟩:ByteArray).data.toList=[40,42]:=rfl;rw [hhd] at HH;have hbl:=eu (cu gI) () (s.data.toList.drop a);have hrl:=eu (cu dI) () (s.data.toList.drop a);have hsl:=eu (cu dH) () (s.data.toList.drop a);rw [List.length_drop,bT] at hbl hrl hsl;have hW:=hk.alloc (.cells #[.int .i64 0,.int .i64 0,.int .i64 0] 119);have Ug:=fun W=>lU gI 260 Zf xX s hs a (by omega) W
 have HPR:=fun W=>lU dI 265 ZT xN s hs a (by omega) W
 have GV:=fun W=>lU dH 267 Zz yg s hs a (by omega) W
 have Q4:dI s[a]=true→0 < aQ (cu dI) () (s.data.toList.drop a):=fun h=>by rw [drop_at s a ha]; exact nY h
 have hsp:dH s[a]=true→0 < aQ (cu dH) () (s.data.toList.drop a):=fun h=>by rw [drop_at s a ha]; exact nY h
 generalize hgb:aQ (cu gI) () (s.data.toList.drop a)=nb at *;generalize hgr:aQ (cu dI) () (s.data.toList.drop a)=nr at *;generalize hgs:aQ (cu dH) () (s.data.toList.drop a)=ns at *;clear hgb hgr hgs
 cases h1:gI s[a]
 case true =>
  rw [h1] at HB hT;have HT:=hid hT;clear hT hk Q4 hsp h1
  go_enter func225,ntmps225
  go_wp2_with fail
  refine (HB _).mono ?_
  rintro e w1 ⟨rfl,rfl⟩
  go_wp2_with fail
  refine (Ug _).mono ?_
  rintro e w1 ⟨rfl,rfl⟩
  go_wp2_with fail
  go_returns
  rw [HT.out];exact ⟨rfl,(Below.refl _ _).alloc (Nat.le_refl _) _⟩
 rw [h1] at HB hT;clear h1
 cases h2:((s[a].toNat:Int) == 34)
 case true =>
  rw [h2] at hT;have HT:=hid hT;have HQ:=fun W=>Ep s hs a ha W
  generalize gQ (s.data.toList.drop (a+1))=q at *;obtain ⟨k,m⟩:=q;clear hT hk Q4 hsp
  go_enter func225,ntmps225
  go_wp2_with fail
  refine (HB _).mono ?_
  rintro e w1 ⟨rfl,rfl⟩
  go_wp2_with fail
  refine (HQ _).mono ?_
  rintro e w1 ⟨rfl,hb⟩;have hcl:=hb.block w.heap.size (by simp);rw [heap_alloc_new] at hcl;have HO:Own3 w1 w.heap.size _ _ _ _:=⟨hcl⟩;have c0:=HO.c0;have c1:=HO.c1;have c2:=HO.c2;have f0:=HO.f 0;have f1:=HO.f 1;have f2:=HO.f 2;clear hcl;have JS:=hid ((((Below.refl w.heap.size w).alloc (Nat.le_refl _) _)).trans (hb.mono (by simp)));clear hb
  go_wp2_with fail
  have mr:=HO.set (.int .i64 k) (.int .i64 (a:Int)) (.int .i64 ((a:Int)+(m:Int)));have HB2:=hid (((JS.out.setCell (p:=⟨w.heap.size,0,none⟩) (Nat.le_refl _) (.int .i64 k)).setCell (p:=⟨w.heap.size,1,none⟩) (Nat.le_refl _) (.int .i64 (a:Int))).setCell (p:=⟨w.heap.size,2,none⟩) (Nat.le_refl _) (.int .i64 ((a:Int)+(m:Int))));clear c0 c1 c2 f0 f1 f2 HO JS;generalize (((w1.setCell ⟨w.heap.size,0,none⟩ (.int .i64 k)).setCell ⟨w.heap.size,1,none⟩ (.int .i64 (a:Int))).setCell ⟨w.heap.size,2,none⟩ (.int .i64 ((a:Int)+(m:Int))))=W2 at *;have c0:=mr.c0;have c1:=mr.c1;have c2:=mr.c2
  try simp only [Exit.inBlock,Exit.then]
  refine bodyPost_ret (by simp [results,results225,go_sem,c0,c1,c2,Result.andThen]; try rfl) rfl ?_
  rw [HT.out];exact ⟨rfl,HB2.out⟩
 rw [h2] at hT;have h2':=h2;clear h2
 cases h3:Lib.hasPrefix (s.extract a s.size).data.toList [40,42]
 case true =>
  rw [h3] at HH hT;have HT:=hid hT;have HQ:=fun W=>note_any s hs a ha W
  generalize ja (s.data.toList.drop a)=q at *;obtain ⟨k,m⟩:=q;clear hT hk Q4 hsp h3
  go_enter func225,ntmps225
  go_wp2_with fail
  refine (HB _).mono ?_
  rintro e w1 ⟨rfl,rfl⟩
  go_wp2_with fail
  refine (HH _).mono ?_
  rintro e w1 ⟨rfl,rfl⟩
  go_wp2_with fail
  refine (HQ _).mono ?_
  rintro e w1 ⟨rfl,hb⟩;have hcl:=hb.block w.heap.size (by simp);rw [heap_alloc_new] at hcl;have HO:Own3 w1 w.heap.size _ _ _ _:=⟨hcl⟩;have c0:=HO.c0;have c1:=HO.c1;have c2:=HO.c2;have f0:=HO.f 0;have f1:=HO.f 1;have f2:=HO.f 2;clear hcl;have JS:=hid ((((Below.refl w.heap.size w).alloc (Nat.le_refl _) _)).trans (hb.mono (by simp)));clear hb
  go_wp2_with fail
  have mr:=HO.set (.int .i64 k) (.int .i64 (a:Int)) (.int .i64 ((a:Int)+(m:Int)));have HB2:=hid (((JS.out.setCell (p:=⟨w.heap.size,0,none⟩) (Nat.le_refl _) (.int .i64 k)).setCell (p:=⟨w.heap.size,1,none⟩) (Nat.le_refl _) (.int .i64 (a:Int))).setCell (p:=⟨w.heap.size,2,none⟩) (Nat.le_refl _) (.int .i64 ((a:Int)+(m:Int))));clear c0 c1 c2 f0 f1 f2 HO JS;generalize (((w1.setCell ⟨w.heap.size,0,none⟩ (.int .i64 k)).setCell ⟨w.heap.size,1,none⟩ (.int .i64 (a:Int))).setCell ⟨w.heap.size,2,none⟩ (.int .i64 ((a:Int)+(m:Int))))=W2 at *;have c0:=mr.c0;have c1:=mr.c1;have c2:=mr.c2
  try simp only [Exit.inBlock,Exit.then]
  refine bodyPost_ret (by simp [results,results225,go_sem,c0,c1,c2,Result.andThen]; try rfl) rfl ?_
  rw [HT.out];exact ⟨rfl,HB2.out⟩
 rw [h3] at HH hT;clear h3
 cases h4:dI s[a]
 case true =>
  rw [h4] at HR hT;have HT:=hid hT;have hp:=Q4 h4;have hsl:=vY s a nr (by omega);have Uh:=rJ (s.extract a (a+nr)) (by simp; omega) (by simp; omega) _ hW;generalize dA (s.extract a (a+nr)).data.toList=k at *;clear hT hk Q4 hsp h4
  go_enter func225,ntmps225
  go_wp2_with fail
  refine (HB _).mono ?_
  rintro e w1 ⟨rfl,rfl⟩
  go_wp2_with fail
  refine (HH _).mono ?_
  rintro e w1 ⟨rfl,rfl⟩
  go_wp2_with fail
  refine (HR _).mono ?_
  rintro e w1 ⟨rfl,rfl⟩
  go_wp2_with fail
  refine (HPR _).mono ?_
  rintro e w1 ⟨rfl,rfl⟩
  go_wp2_with fail
  refine (Uh).mono ?_
  rintro e w1 ⟨rfl,rfl⟩
  go_wp2_with fail
  go_returns
  rw [HT.out];exact ⟨rfl,(Below.refl _ _).alloc (Nat.le_refl _) _⟩
 rw [h4] at HR hT;clear h4
 cases h5:dH s[a]
 case true =>
  rw [h5] at HS hT;have HT:=hid hT;have hp:=hsp h5;have hsl:=vY s a ns (by omega);have Uh:=rJ (s.extract a (a+ns)) (by simp; omega) (by simp; omega) _ hW;generalize dA (s.extract a (a+ns)).data.toList=k at *;clear hT hk Q4 hsp h5
  go_enter func225,ntmps225
  go_wp2_with fail
  refine (HB _).mono ?_
  rintro e w1 ⟨rfl,rfl⟩
  go_wp2_with fail
  refine (HH _).mono ?_
  rintro e w1 ⟨rfl,rfl⟩
  go_wp2_with fail
  refine (HR _).mono ?_
  rintro e w1 ⟨rfl,rfl⟩
  go_wp2_with fail
  refine (HS _).mono ?_
  rintro e w1 ⟨rfl,rfl⟩
  go_wp2_with fail
  refine (GV _).mono ?_
  rintro e w1 ⟨rfl,rfl⟩
  go_wp2_with fail
  refine (Uh).mono ?_
  rintro e w1 ⟨rfl,rfl⟩
  go_wp2_with fail
  go_returns
  rw [HT.out];exact ⟨rfl,(Below.refl _ _).alloc (Nat.le_refl _) _⟩
 rw [h5] at HS hT;clear h5;have HT:=hid hT;have hsl:=vY s a 1 (by omega);simp only [Int.cast_ofNat_Int] at hsl;have Uh:=rJ (s.extract a (a+1)) (by simp; omega) (by simp; omega) _ hW;generalize dA (s.extract a (a+1)).data.toList=k at *;clear hT hk Q4 hsp
 go_enter func225,ntmps225
 go_wp2_with fail
 refine (HB _).mono ?_
 rintro e w1 ⟨rfl,rfl⟩
 go_wp2_with fail
 refine (HH _).mono ?_
 rintro e w1 ⟨rfl,rfl⟩
 go_wp2_with fail
 refine (HR _).mono ?_
 rintro e w1 ⟨rfl,rfl⟩
 go_wp2_with fail
 refine (HS _).mono ?_
 rintro e w1 ⟨rfl,rfl⟩
 go_wp2_with fail
 refine (Uh).mono ?_
 rintro e w1 ⟨rfl,rfl⟩
 go_wp2_with fail
 go_returns
 rw [HT.out];exact ⟨rfl,(Below.refl _ _).alloc (Nat.le_refl _) _⟩
def Tok.v (t:Tok):Value:=.agg #[.int .i64 t.k,.int .i64 (t.a:Int),.int .i64 (t.e:Int)]
def dR (s:ByteArray) (a:Nat):Tok:=bif decide (a < s.size) then ⟨(dJ (s.data.toList.drop a)).1,a,a+(dJ (s.data.toList.drop a)).2⟩ else ⟨0,s.size,s.size⟩
theorem lM (s:ByteArray) (a:Nat) (h:a < s.size):dR s a=⟨(dJ (s.data.toList.drop a)).1,a,a+(dJ (s.data.toList.drop a)).2⟩:=by
 unfold dR; rw [decide_eq_true h]; rfl
theorem jd (s:ByteArray):dR s s.size=⟨0,s.size,s.size⟩:=by
 unfold dR; rw [decide_eq_false (by omega)]; rfl
def gu (go:Tok→Bool):List Tok→List Tok
 | []=>[]
 | k :: r=>bif go k && !(k.k == 0) then k :: gu go r else [k]
def fU (s:ByteArray) (a:Nat):List Tok:=eG s.size a (s.data.toList.drop a)++[⟨0,s.size,s.size⟩]
theorem CB (s:ByteArray) (a:Nat) (h:a < s.size):fU s a=dR s a :: fU s (dR s a).e:=by
 unfold fU;rw [PW s a h,lM s a h]
 rfl
theorem xI (s:ByteArray):fU s s.size=[dR s s.size]:=by
 unfold fU;rw [Md s s.size s.size (by omega),jd]
 rfl
theorem nP (s:ByteArray) (a:Nat) (h:a < s.size):a < (dR s a).e∧(dR s a).e≤s.size:=by
 rw [lM s a h]
 have:=mW (s.data.toList.drop a) (by rw [drop_at s a h]; simp)
 rw [List.length_drop,bT] at this;exact ⟨by simp; omega,by simp; omega⟩
theorem BR (s:ByteArray) (hs:s.size≤1000000) (a:Nat) (ha:a≤s.size) (w:World) (hk:Kw w) :
  Calls prog 225 #[.string s,.int .i64 a] w fun e w'=>e=.returned (.agg #[.int .i64 (dR s a).k,.int .i64 ((dR s a).a:Int),.int .i64 ((dR s a).e:Int)])∧Below w.heap.size w w':=by
 by_cases h:a < s.size
 ·rw [lM s a h]
  exact Jd s hs a h w hk
 ·have:a=s.size:=by omega
  subst this;rw [jd];exact Ih s w hs
theorem tV {P:Program} {a:Act} {w:World} {Q:Exit→Act→World→Prop} {x rest:Code} (l:Nat) (J:Act→World→Prop) (μ:Act→World→Nat)
  (hf:findLabel (x.seq ((Code.label l).seq rest)) l=some (Code.skip.seq rest))
  (h0:x.wp P (Exit.then J (fun _ _ _=>False)) a w) (pass:∀ a w,J a w→rest.wp P (Exit.jump l (fun a' w'=>J a' w'∧μ a' w' < μ a w) Q) a w):(Code.scope (x.seq ((Code.label l).seq rest))).wp P Q a w:=by
 have hs:∀ a w,J a w→(Code.skip.seq rest).wp P (Exit.jump l (fun a' w'=>J a' w'∧μ a' w' < μ a w) Q) a w:=fun a w h=>wp_seq (wp_skip (pass a w h))
 refine wp_scope_jumps l J μ hf ?_ hs
 refine wp_seq (wp_mono h0 ?_)
 intro e a w h
 cases e with
 | normal=>exact wp_seq (wp_label (wp_mono (pass a w h) (Exit.jump_mono fun _ _ h=>h.1)))
 | _=>exact h.elim
set_option maxHeartbeats 2000000 in
theorem AU (go:Tok→Bool) (I:List Tok→World→Prop) (n:Nat) (cap:Array Value)
  (hcf:∀ args w,Sem.run prog (callFunc n args) w=.ok (.enter n args) w) (s:ByteArray) (hs:s.size≤1000000)
  (hst:∀ l w w',I l w→Below w.heap.size w w'→I l w') (hkw:∀ l w,I l w→Kw w)
  (H:∀ l a w o,a≤s.size→l.length≤s.size→(∀ t ∈ l,go t=true)→I l w→Calls prog n (#[(dR s a).v]++cap) (w.alloc o) fun e w'=>e=.returned (.bool (go (dR s a)))∧I (l++[dR s a]) w'∧w'.heap[w.heap.size]?=some o)
  (w:World) (h0:I [] w) :
  Calls prog 168 #[.string s,.func (.func n) #[] cap] w fun e w'=>e=.returned (.tuple #[])∧I (gu go (fU s 0)) w':=by
 have HH:=hid H;have HS:=hid hst;have HK:=hid hkw;clear H hst hkw
 go_enter func168,ntmps168
 go_wp2
 refine tV 0 (fun a' w'=>∃ (a:Nat) (l:List Tok) (u5 u6 u7 u8 u9 u10 u11 u12 u13 u14 u15 u16 u17 u18:Value),a≤s.size∧l.length≤a∧Hid (∀ t ∈ l,go t=true)∧Hid (I l w')∧Hid (gu go (fU s 0)=l++gu go (fU s a))∧a'={ tmps:=#[.string s,.func (.func n) #[] cap,undef,undef,.int .i64 a,u5,u6,u7,u8,u9,u10,u11,u12,u13,u14,u15,u16,u17,u18],defers:=[] }) (fun a' _=>s.size - (intOf (a'.tmps.getD 4 undef)).toNat) (by rfl) ?_ ?_
 ·go_wp2
  exact ⟨0,[],undef,undef,undef,undef,undef,undef,undef,undef,undef,undef,undef,undef,undef,undef,by omega,by simp,hid (fun t h=>by simp at h),hid h0,hid rfl,rfl⟩
 rintro a' w' ⟨a,l,u5,u6,u7,u8,u9,u10,u11,u12,u13,u14,u15,u16,u17,u18,ha,hl,HG,HI,HP,rfl⟩;have HT:=BR s hs a ha w' (HK.out _ _ HI.out);have HX:=fun w o (h:I l w)=>HH.out l a w o ha (by omega) HG.out h
 have HB:Hid (a < s.size→a < (dR s a).e∧(dR s a).e≤s.size):=hid (nP s a);have HR:Hid (a < s.size→fU s a=dR s a :: fU s (dR s a).e):=hid (CB s a);have HN:Hid (¬ a < s.size→fU s a=[dR s a]∧(dR s a).k=0):=hid fun h=>by
  have:a=s.size:=by omega
  subst this;exact ⟨xI s,by rw [jd]⟩
 generalize dR s a=T at *;obtain ⟨tk,ta,te⟩:=T;simp only [Tok.v] at HX HT
 go_wp2_with fail
 refine HT.mono ?_
 rintro e w1 ⟨rfl,hb1⟩;have HI1:=hid (HS.out _ _ _ HI.out hb1);clear hb1;have HX:=HX w1 (.cells #[.int .i64 tk,.int .i64 (ta:Int),.int .i64 (te:Int)] 119) HI1.out
 go_wp2_with fail
 refine HX.mono ?_
 rintro e w2 ⟨rfl,h2,hc⟩;have HO:Own3 w2 w1.heap.size _ _ _ _:=⟨hc⟩;have c0:=HO.c0;have c2:=HO.c2;have H2:=hid h2;have hstop:Hid (go ⟨tk,ta,te⟩=false∨tk=0→gu go (fU s 0)=l++[⟨tk,ta,te⟩]):=hid fun h=>by
  rw [HP.out];have e1:(go ⟨tk,ta,te⟩ && !(tk == 0))=false:=by rcases h with h | h <;> simp [h]
  by_cases hlt:a < s.size
  ·rw [HR.out hlt]; simp [gu,e1]
  ·rw [(HN.out hlt).1]; simp [gu,e1]
 clear h2 hc HO
 cases hg:go ⟨tk,ta,te⟩
 ·have HE:=hid (hstop.out (.inl hg))
  go_wp2
  simp only [Exit.jump]
  go_returns
  exact ⟨rfl,HE.out ▸ H2.out⟩
 ·by_cases hz:tk=0
  ·have HE:=hid (hstop.out (.inr hz))
   go_wp2
   simp only [Exit.jump]
   go_returns
   exact ⟨rfl,HE.out ▸ H2.out⟩
  ·have hlt:a < s.size:=by
    apply Decidable.byContradiction
    intro h;exact hz (HN.out h).2
   have hb:=HB.out hlt;have HE:Hid (gu go (fU s 0)=(l++[⟨tk,ta,te⟩])++gu go (fU s te)):=hid (by
    rw [HP.out,HR.out hlt];have e1:(go ⟨tk,ta,te⟩ && !(tk == 0))=true:=by simp [hg,hz]
    simp [gu,e1])
   have HG2:Hid (∀ t ∈ l++[⟨tk,ta,te⟩],go t=true):=hid fun t ht=>by
    rcases List.mem_append.1 ht with h | h
    ·exact HG.out t h
    ·simp at h; subst h; exact hg
   have hz':(tk == 0)=false:=by simpa using hz
   go_wp2
   go_step3
   refine ⟨rfl,⟨te,_,_,_,_,_,_,_,_,_,_,_,_,_,_,_,hb.2,by simp; omega,HG2,H2,HE,by go_num⟩,?_⟩
   simp [intOf]; omega
set_option maxRecDepth 20000
def jh:List Tok→List Value
 | []=>[]
 | t :: r=>.int .i64 t.k :: .int .i64 (t.a:Int) :: .int .i64 (t.e:Int) :: jh r
theorem wJ (a b:List Tok):jh (a++b)=jh a++jh b:=by
 induction a with
 | nil=>rfl
 | cons x r ih=>simp [jh,ih]
theorem info26:(prog.info? 119).map (fun i=>(i.zero,i.size,i.bytes))=some (some (.agg #[.int .i64 0,.int .i64 0,.int .i64 0]),3,24):=by kernel_rfl
structure jD (B:Nat) (w0:World) (m:Nat) (l:List Tok) (v:Value) (w:World):Prop where
 ask:w.heap[B]?=some (.cells #[.func (.func m) #[] #[]] 136 (0,0))
 out:w.heap[B+1]?=some (.cells #[v] 50 (0,0))
 own:w.ownsRow (B+2) 119 3 v l.length (jh l)
 below:Below B w0 w
 kw:Kw w
theorem ownsRow_below {w w':World} {base:Nat} {e:TypeId} {size:Nat} {v:Value} {n:Nat} {xs:List Value} (h:w.ownsRow base e size v n xs) (hb:Below w.heap.size w w'):w'.ownsRow base e size v n xs:=by
 refine ⟨h.1,?_⟩
 rcases h.2 with h0 | ⟨g,cap,cur,hv,hg,hh,r⟩
 ·exact .inl h0
 ·exact .inr ⟨g,cap,cur,hv,hg,(hb.block g (lt_of_block hh)).trans hh,r⟩
theorem jD.step {B:Nat} {w0:World} {m:Nat} {l:List Tok} {v:Value} {w w':World} (h:jD B w0 m l v w) (hb:Below w.heap.size w w'):jD B w0 m l v w' :=
 ⟨(hb.block _ (lt_of_block h.ask)).trans h.ask,(hb.block _ (lt_of_block h.out)).trans h.out,ownsRow_below h.own hb,h.below.trans (hb.mono (Nat.le_of_lt (lt_of_block h.ask))),h.kw.step hb⟩
set_option maxHeartbeats 1000000 in
theorem WL (m:Nat) (ask:Int→Bool) (hcf:∀ args w,Sem.run prog (callFunc m args) w=.ok (.enter m args) w) (T:Tok)
  (hm:∀ w,Calls prog m #[.int .i64 T.k] w fun e w'=>e=.returned (.bool false)∧w=w')
  (B:Nat) (w0 w:World) (o:Obj) (l:List Tok) (v:Value) (h:jD B w0 m l v w) :
  Calls prog 175 #[T.v,.pointer (some ⟨B,0,none⟩),.pointer (some ⟨B+1,0,none⟩)] (w.alloc o) fun e w'=>e=.returned (.bool true)∧jD B w0 m l v w'∧w'.heap[w.heap.size]?=some o:=by
 have hA:=(h.step ((Below.refl _ _).alloc (Nat.le_refl _) o));have c0:=cell_of_one hA.ask;have hlt:=lt_of_block h.ask;have HA:=hid hA;clear hA h;obtain ⟨k,a,e⟩:=T;simp only [Tok.v] at *
 go_enter func175,ntmps175
 go_wp2_with fail
 refine (hm _).mono ?_
 rintro e w1 ⟨rfl,rfl⟩
 go_wp2_with fail
 go_returns
 refine ⟨rfl,HA.out.step (by go_grown),?_⟩
 rw [heap_alloc_old _ _ (by simp)];exact heap_alloc_new w o
theorem AC {w:World} {base:Nat} {e:TypeId} {size:Nat} {v:Value} {n:Nat} {xs:List Value} (h:w.ownsRow base e size v n xs) {b o:Nat} (hb:b < base) (u:Value):(w.setCell ⟨b,o,none⟩ u).ownsRow base e size v n xs:=by
 refine h.kept (row:=some b) ⟨rfl,rfl,rfl,by simp [World.setCell],fun k _ hk=>Below.heap_setCell _ _ _ _ (fun e=>hk (by simp [e]))⟩ ?_
 cases hv:v.ownBlock with
 | none=>exact .inl rfl
 | some g=>exact .inr (fun e=>by have:=(h.lt g hv).1; simp only [Option.some.injEq] at e; omega)
theorem kU {w:World} {base:Nat} {e:TypeId} {size:Nat} {v:Value} {n:Nat} {xs:List Value} (h:w.ownsRow base e size v n xs) {k:Nat} (hk:k < base):v.ownBlock≠some k:=fun g=>by
 have:=(h.lt k g).1; omega
set_option maxHeartbeats 1000000 in
theorem TA (m:Nat) (ask:Int→Bool) (hcf:∀ args w,Sem.run prog (callFunc m args) w=.ok (.enter m args) w) (T:Tok)
  (hm:∀ w,Calls prog m #[.int .i64 T.k] w fun e w'=>e=.returned (.bool true)∧w=w')
  (B:Nat) (w0 w:World) (o:Obj) (l:List Tok) (v:Value) (h:jD B w0 m l v w) (hl:l.length≤1000000) :
  Calls prog 175 #[T.v,.pointer (some ⟨B,0,none⟩),.pointer (some ⟨B+1,0,none⟩)] (w.alloc o) fun e w'=>e=.returned (.bool true)∧(∃ v',jD B w0 m (l++[T]) v' w')∧w'.heap[w.heap.size]?=some o:=by
 have hlt:=lt_of_block h.ask;have hlt1:=lt_of_block h.out;obtain ⟨i0,hi0,hy0,hy1,hy2⟩:=info_parts info26;obtain ⟨k,a,e⟩:=T;simp only [Tok.v] at *;have hA:=(h.step ((Below.refl _ _).alloc (Nat.le_refl _) o));have c0:=cell_of_one hA.ask;have hA2:=hA.step ((Below.refl _ _).alloc (Nat.le_refl _) (.cells #[.int .i64 k,.int .i64 (a:Int),.int .i64 (e:Int)] 119));have c1:=cell_of_one hA2.out;have hA3:=hA2.step ((Below.refl _ _).alloc (Nat.le_refl _) (.cells #[.int .i64 k,.int .i64 (a:Int),.int .i64 (e:Int)] 119));have Ui:=hid hA3;have HW:=hid h;clear hA hA2 hA3 h
 go_enter func175,ntmps175
 go_wp2_with fail
 refine (hm _).mono ?_
 rintro e' w1 ⟨rfl,rfl⟩
 go_wp2_with (at_builtin; refine wpList_append_own _ rfl (.tmp 9) (.tmp 11) 50 rfl (B+2) 119 i0 (.agg #[.int .i64 0,.int .i64 0,.int .i64 0]) 3 24 underlying50 hi0 hy0 hy1 hy2 rfl (by omega) v l.length (jh l) rfl Ui.out.own ⟨w.heap.size+1+1,0,none⟩ 1 1 [.int .i64 k,.int .i64 (a:Int),.int .i64 (e:Int)] rfl rfl (World.news_of_block (cs:=#[.int .i64 k,.int .i64 (a:Int),.int .i64 (e:Int)]) (t:=119) (fr:=(0,0)) (by have:=heap_alloc_new ((w.alloc o).alloc (.cells #[.int .i64 k,.int .i64 (a:Int),.int .i64 (e:Int)] 119)) (.cells #[.int .i64 k,.int .i64 (a:Int),.int .i64 (e:Int)] 119); simpa using this)) (by simp [Value.oneCell']) (by unfold maxLen; omega) (by omega) (by simp; omega) ?_)
 intro v' w2 hown hg hne;obtain ⟨g',cap',rfl⟩:∃ g c,v'=.slice (some ⟨g,0,none⟩) (l.length+1) c:=by
  rcases hown.2 with ⟨e1,e2⟩ | ⟨g,c,_,e1,_⟩
  ·omega
  ·exact ⟨g,c,e1⟩
 have n0:=kU HW.out.own (k:=B) (by omega);have n1:=kU HW.out.own (k:=B+1) (by omega);have n2:v.ownBlock≠some w.heap.size:=fun e=>by have:=(HW.out.own.lt _ e).2; omega
 have b0:=(hg.block B (by simp; omega) (Ne.symm n0)).trans Ui.out.ask;have b1:=(hg.block (B+1) (by simp; omega) (Ne.symm n1)).trans Ui.out.out;have b2:w2.heap[w.heap.size]?=some o:=(hg.block w.heap.size (by simp; omega) (Ne.symm n2)).trans (by rw [heap_alloc_old _ _ (by simp; omega),heap_alloc_old _ _ (by simp)]; exact heap_alloc_new w o);have c2:=cell_of_one b1;have f2:=free_of_one b1;have hsz:w.heap.size < w2.heap.size:=lt_of_block b2;have hbe:Below B w0 w2:=Ui.out.below.grown hg (by simp; omega) (fun k hk=>by have:=(HW.out.own.lt k hk).1; omega);have hkw:Kw w2:=by
  obtain ⟨⟨t,fr,hk⟩,_⟩:=Ui.out.kw;refine Kw.of (t:=t) (fr:=fr) ((hg.block 0 (Array.getElem?_eq_some_iff.1 hk).1 ?_).trans hk)
  intro e
  have:=(HW.out.own.lt 0 e.symm).1
  omega
 have FIN:jD B w0 m (l++[⟨k,a,e⟩]) (.slice (some ⟨g',0,none⟩) (l.length+1) cap') (w2.setCell ⟨B+1,0,none⟩ (.slice (some ⟨g',0,none⟩) (l.length+1) cap')):=by
  refine ⟨(Below.heap_setCell _ _ _ _ (show B≠B+1 by omega)).trans b0,one_setCell b1,?_,hbe.setCell (show B≤B+1 by omega) _,?_⟩
  ·rw [List.length_append,wJ]
   exact AC hown (by omega) _
  ·obtain ⟨⟨t,fr,hk⟩,_⟩:=hkw
   refine Kw.of (t:=t) (fr:=fr) ((Below.heap_setCell _ _ _ _ (show (0:Nat)≠B+1 by omega)).trans hk)
 have FIN:=hid FIN;have B2:=hid ((Below.heap_setCell w2 ⟨B+1,0,none⟩ (.slice (some ⟨g',0,none⟩) (l.length+1) cap') w.heap.size (show w.heap.size≠B+1 by omega)).trans b2);clear hown hg hne n0 n1 n2 b0 b1 b2 hbe hkw
 go_wp2_with fail
 go_returns
 exact ⟨rfl,⟨_,FIN.out⟩,B2.out⟩
def gV (ask:Int→Bool):List Tok→List Tok
 | []=>[]
 | t :: r=>bif ask t.k then t :: gV ask r else gV ask r
theorem qR (ask:Int→Bool) (a b:List Tok):gV ask (a++b)=gV ask a++gV ask b:=by
 induction a with
 | nil=>rfl
 | cons x r ih=>simp only [List.cons_append,gV]; cases ask x.k <;> simp [ih]
theorem qY (ask:Int→Bool) (l:List Tok):(gV ask l).length≤l.length:=by
 induction l with
 | nil=>simp [gV]
 | cons x r ih=>simp only [gV]; cases ask x.k <;> simp <;> omega
theorem TT (m:Nat) (ask:Int→Bool) (hcf:∀ args w,Sem.run prog (callFunc m args) w=.ok (.enter m args) w) (T:Tok)
  (hm:∀ w,Calls prog m #[.int .i64 T.k] w fun e w'=>e=.returned (.bool (ask T.k))∧w=w')
  (B:Nat) (w0 w:World) (o:Obj) (l:List Tok) (v:Value) (h:jD B w0 m l v w) (hl:l.length≤1000000) :
  Calls prog 175 #[T.v,.pointer (some ⟨B,0,none⟩),.pointer (some ⟨B+1,0,none⟩)] (w.alloc o) fun e w'=>e=.returned (.bool true)∧(∃ v',jD B w0 m (l++gV ask [T]) v' w')∧w'.heap[w.heap.size]?=some o:=by
 cases ha:ask T.k
 ·refine (WL m ask hcf T (fun w=>by have:=hm w; rw [ha] at this; exact this) B w0 w o l v h).mono ?_
  rintro e w' ⟨rfl,h1,h2⟩;exact ⟨rfl,⟨v,by simpa [gV,ha] using h1⟩,h2⟩
 ·refine (TA m ask hcf T (fun w=>by have:=hm w; rw [ha] at this; exact this) B w0 w o l v h hl).mono ?_
  rintro e w' ⟨rfl,⟨v',h1⟩,h2⟩;exact ⟨rfl,⟨v',by simpa [gV,ha] using h1⟩,h2⟩
theorem ZG (args:Array Value) (w:World):Sem.run prog (callFunc 175 args) w=.ok (.enter 175 args) w:=aV func175 (by kernel_rfl) (by kernel_rfl) args w
def uQ (w:World) (v:Value) (l:List Tok):Prop:=∃ base,w.ownsRow base 119 3 v l.length (jh l)
set_option maxHeartbeats 1000000 in
theorem JH (m:Nat) (ask:Int→Bool) (hcf:∀ args w,Sem.run prog (callFunc m args) w=.ok (.enter m args) w)
  (hm:∀ k w,Calls prog m #[.int .i64 k] w fun e w'=>e=.returned (.bool (ask k))∧w=w')
  (s:ByteArray) (hs:s.size≤1000000) (w:World) (hk:Kw w) :
  Calls prog 123 #[.string s,.func (.func m) #[] #[]] w fun e w'=>∃ v,e=.returned v∧uQ w' v (gV ask (gu (fun _=>true) (fU s 0)))∧Below w.heap.size w w':=by
 have h0:jD w.heap.size w m [] (.slice none 0 0) ((w.alloc (.cells #[.func (.func m) #[] #[]] 136)).alloc (.cells #[.slice none 0 0] 50)):=by
  refine ⟨?_,?_,World.ownsRow_nil _ _ _ _,((Below.refl _ _).alloc (Nat.le_refl _) _).alloc (by simp) _,(hk.alloc _).alloc _⟩
  ·rw [heap_alloc_old _ _ (by simp)]; exact heap_alloc_new w _
  ·have:=heap_alloc_new (w.alloc (.cells #[.func (.func m) #[] #[]] 136)) (.cells #[.slice none 0 0] 50); simpa using this
 have HE:=AU (fun _=>true) (fun l W=>∃ v,jD w.heap.size w m (gV ask l) v W) 175 #[.pointer (some ⟨w.heap.size,0,none⟩),.pointer (some ⟨w.heap.size+1,0,none⟩)] ZG s hs (fun l W W' h hb=>by obtain ⟨v,h⟩:=h; exact ⟨v,h.step hb⟩) (fun l W h=>by obtain ⟨v,h⟩:=h; exact h.kw)
  (fun l a W o ha hl _ h=>by
   obtain ⟨v,h⟩:=h;refine (TT m ask hcf (dR s a) (hm _) w.heap.size w W o _ v h (by have:=qY ask l; omega)).mono ?_
   rintro e w' ⟨rfl,h1,h2⟩;exact ⟨rfl,by rw [qR]; exact h1,h2⟩)
  _ ⟨_,h0⟩
 have hmf:∀ (fn:Fn) (first cap:Array Value) (w:World),(Instr.makeFunc fn first cap).run prog w=.ok (.func fn first cap) w:=fun _ _ _ _=>rfl
 clear h0 hm hk;generalize gV ask (gu (fun _=>true) (fU s 0))=L at *
 go_enter func123,ntmps123
 go_wp2_with fail
 refine HE.mono ?_
 rintro e w1 ⟨rfl,v,h1⟩;have c0:=cell_of_one h1.out;have H1:=hid h1;clear h1
 go_wp2_with fail
 go_returns
 exact ⟨v,rfl,⟨_,H1.out.own⟩,H1.out.below⟩
theorem pW (p:List UInt8):dA p≠0:=by
 unfold dA
 cases p with
 | nil=>decide
 | cons c r =>
  simp only
  cases jv c
  ·cases h:(eH (bsOf (c :: r)) == 0)
   ·simpa using h
   ·simp
  ·cases aQ (cu jv) () (c :: r) == (c :: r).length <;> simp
theorem xH (l:List UInt8) (h:l≠[]):(dJ l).1≠0:=by
 cases l with
 | nil=>exact absurd rfl h
 | cons c r =>
  unfold dJ
  simp only
  cases gI c
  ·cases eqB c 34
   ·cases (eqB c 40 && headB r 42)
    ·cases dI c
     ·cases dH c
      ·simp only [cond_false]; exact pW _
      ·simp only [cond_false,cond_true]; exact pW _
     ·simp only [cond_false,cond_true]; exact pW _
    ·unfold ja; simp only; cases (aQ nF (0,0) (c :: r) == (c :: r).length) <;> simp
   ·unfold gQ; simp only; cases headB (r.drop (aQ qF false r)) 34 <;> simp
  ·simp
theorem Ba (go:Tok→Bool) (n a:Nat) (l:List UInt8) (z:Tok) (hz:z.k=0) (hg:∀ t,go t=true):gu go (eG n a l++[z])=eG n a l++[z]:=by
 induction n generalizing a l with
 | zero=>simp [eG,gu,hz]
 | succ n ih =>
  cases l with
  | nil=>simp [eG,gu,hz]
  | cons c r =>
   have hk:=xH (c :: r) (by simp);simp only [eG,List.isEmpty_cons,cond_false,List.cons_append,gu,hg,Bool.true_and];rw [ih]
   have:(!((dJ (c :: r)).1 == 0))=true:=by simpa using hk
   rw [this]
   rfl
def sF (s:ByteArray):List Tok:=fU s 0
theorem Ht (s:ByteArray):gu (fun _=>true) (fU s 0)=sF s:=Ba _ _ _ _ _ rfl (fun _=>rfl)
theorem ZE (args:Array Value) (w:World):Sem.run prog (callFunc 169 args) w=.ok (.enter 169 args) w:=aV func169 (by kernel_rfl) (by kernel_rfl) args w
theorem Zr (args:Array Value) (w:World):Sem.run prog (callFunc 124 args) w=.ok (.enter 124 args) w:=aV func124 (by kernel_rfl) (by kernel_rfl) args w
def rY (k:Int):Bool:=!(k == 1) && !(k == 2)
theorem TE (k:Int) (w:World):Calls prog 124 #[.int .i64 k] w fun e w'=>e=.returned (.bool (rY k))∧w=w':=by
 by_cases h1:k=1
 ·subst h1
  go_enter func124,ntmps124
  go_wp2
  go_ret
  exact ⟨rfl,rfl⟩
 ·have HB:Hid (rY k=(k != 2)):=hid (by unfold rY; simp [h1,bne])
  have h1':(k != 1)=true:=by simp [h1]
  go_enter func124,ntmps124
  go_wp2
  go_ret
  exact ⟨aK HB.out.symm,rfl⟩
def bC (s:ByteArray):List Tok:=gV rY (sF s)
theorem yu (s:ByteArray) (hs:s.size≤1000000) (w:World) (hk:Kw w) :
  Calls prog 82 #[.string s] w fun e w'=>∃ v,e=.returned v∧uQ w' v (bC s)∧Below w.heap.size w w':=by
 have H:=JH 124 rY Zr TE s hs w hk;rw [Ht] at H;have e:bC s=gV rY (sF s):=rfl;rw [← e] at H;clear hk e
 go_enter func82,ntmps82
 go_wp2_with fail
 refine H.mono ?_
 rintro e w1 ⟨v,rfl,h1,h2⟩;have H1:=hid h1;have H2:=hid h2;clear h1 h2
 go_wp2_with fail
 go_returns
 exact ⟨v,rfl,H1.out,H2.out⟩
set_option maxHeartbeats 1000000 in
theorem Nj (s:ByteArray) (hs:s.size≤1000000) (k:Int) (a e:Nat) (ha:a≤e) (he:e≤s.size) (w:World) :
  Calls prog 226 #[.agg #[.int .i64 k,.int .i64 (a:Int),.int .i64 (e:Int)],.string s] w fun r w'=>r=.returned (.string (s.extract a e))∧Below w.heap.size w w':=by
 have hsl:∀ w,Sem.run prog (Instr.slice 9 (.string s) (some (.int .i64 a)) (some (.int .i64 e)) none) w=.ok (.string (s.extract a e)) w:=fun w=>by
  have:=run_slice_string (P:=prog) (w:=w) 9 s .i64 .i64 (a:Int) (e:Int) underlying9 (by omega) (by omega) (by omega)
  exact this
 go_enter func226,ntmps226
 go_wp2
 go_returns
 exact ⟨rfl,by go_grown⟩
def yM (s:ByteArray) (a:Nat):Int:=bif headB (s.data.toList.drop a) 34 || headB (s.data.toList.drop a) 40 then 8 else 7
set_option maxHeartbeats 1000000 in
theorem P7 (s:ByteArray) (hs:s.size≤1000000) (a e:Nat) (ha:a < e) (he:e≤s.size) (w:World) :
  Calls prog 170 #[.agg #[.int .i64 3,.int .i64 (a:Int),.int .i64 (e:Int)],.string s] w fun r w'=>r=.returned (.int .i64 (yM s a))∧Below w.heap.size w w':=by
 have HP:=fun W=>Nj s hs 3 a e (by omega) he W
 have hz:(s.extract a e).size=e - a:=by simp; omega
 have h0:0 < (s.extract a e).size:=by omega
 have hem:(s.extract a e).toList.isEmpty=false:=by
  rw [toList_data]
  cases h:(s.extract a e).data.toList with
  | nil=>exact absurd (show (s.extract a e).size=0 by rw [← bT,h]; rfl) (by omega)
  | cons=>rfl
 have hB:yM s a=bif (((s.extract a e)[0]'h0).toNat:Int) == 34 || (((s.extract a e)[0]'h0).toNat:Int) == 40 then 8 else 7:=by
  have e1:∀ n,headB (s.data.toList.drop a) n=((((s.extract a e)[0]'h0).toNat:Int) == n):=fun n=>by
   rw [← BQ (s.extract a e) 0 h0 n,List.drop_zero,Lib.extract_data,drop_at s a (by omega)];obtain ⟨m,hm⟩:∃ m,e - a=m+1:=⟨e - a - 1,by omega⟩
   rw [hm]; rfl
  unfold yM;rw [e1,e1]
 have HB:=hid hB;clear hB hz;generalize s.extract a e=p at *
 cases h1:(((p[0]'h0).toNat:Int) == 34) <;> cases h2:(((p[0]'h0).toNat:Int) == 40) <;> simp only [h1,h2] at HB
 all_goals
  go_enter func170,ntmps170
  go_wp2_with fail
  refine (HP _).mono ?_
  rintro r w1 ⟨rfl,hb⟩;have HO:Own3 w1 w.heap.size _ _ _ _:=⟨(hb.block _ (by simp)).trans (heap_alloc_new w _)⟩;have c0:=HO.c0
  go_wp2_with fail
  go_returns
  exact ⟨dD HB.out.symm,((Below.refl w.heap.size w).alloc (Nat.le_refl _) _).trans (hb.mono (by simp))⟩
structure jF (B:Nat) (w0:World) (s:ByteArray) (x y:Int) (w:World):Prop where
 txt:w.heap[B]?=some (.cells #[.string s] 9 (0,0))
 pl:w.heap[B+1]?=some (.cells #[.int .i64 x] 3 (0,0))
 er:w.heap[B+2]?=some (.cells #[.int .i64 y] 28 (0,0))
 pos:0 < B
 below:Below B w0 w
 kw:Kw w
theorem jF.step {B:Nat} {w0:World} {s:ByteArray} {x y:Int} {w w':World} (h:jF B w0 s x y w) (hb:Below w.heap.size w w'):jF B w0 s x y w' :=
 ⟨(hb.block _ (lt_of_block h.txt)).trans h.txt,(hb.block _ (lt_of_block h.pl)).trans h.pl,(hb.block _ (lt_of_block h.er)).trans h.er,h.pos,h.below.trans (hb.mono (Nat.le_of_lt (lt_of_block h.txt))),h.kw.step hb⟩
theorem jF.put {B:Nat} {w0:World} {s:ByteArray} {x y:Int} {w:World} (h:jF B w0 s x y w) (x' y':Int):jF B w0 s x' y' ((w.setCell ⟨B+1,0,none⟩ (.int .i64 x')).setCell ⟨B+2,0,none⟩ (.int .i64 y')):=by
 refine ⟨?_,?_,?_,h.pos,(h.below.setCell (show B≤B+1 by omega) _).setCell (show B≤B+2 by omega) _,?_⟩
 ·rw [Below.heap_setCell _ _ _ _ (show B≠B+2 by omega),Below.heap_setCell _ _ _ _ (show B≠B+1 by omega)]; exact h.txt
 ·rw [Below.heap_setCell _ _ _ _ (show B+1≠B+2 by omega)]; exact one_setCell h.pl
 ·exact one_setCell ((Below.heap_setCell _ _ _ _ (show B+2≠B+1 by omega)).trans h.er)
 ·obtain ⟨⟨t,fr,hk⟩,_⟩:=h.kw
  have hp:=h.pos;refine Kw.of (t:=t) (fr:=fr) ?_
  rw [Below.heap_setCell _ _ _ _ (show (0:Nat)≠B+2 by omega),Below.heap_setCell _ _ _ _ (show (0:Nat)≠B+1 by omega)]; exact hk
theorem WM (T:Tok) (hT:T.k≠3) (B:Nat) (w0 w:World) (o:Obj) (s:ByteArray) (x:Int) (h:jF B w0 s x 0 w) :
  Calls prog 169 #[T.v,.pointer (some ⟨B,0,none⟩),.pointer (some ⟨B+1,0,none⟩),.pointer (some ⟨B+2,0,none⟩)] (w.alloc o) fun e w'=>e=.returned (.bool true)∧jF B w0 s x 0 w'∧w'.heap[w.heap.size]?=some o:=by
 have hlt:=lt_of_block h.er;obtain ⟨k,a,e⟩:=T;have hT':(k == 3)=false:=by simpa using hT
 have hA:=h.step ((Below.refl _ _).alloc (Nat.le_refl _) o);have hA2:=hA.step ((Below.refl _ _).alloc (Nat.le_refl _) (.cells #[.int .i64 k,.int .i64 (a:Int),.int .i64 (e:Int)] 119));have c0:=cell_of_one hA2.er;have HA:=hid hA2;clear hA hA2 h hT;simp only [Tok.v] at *
 go_enter func169,ntmps169
 go_wp2
 go_returns
 refine ⟨rfl,HA.out,?_⟩
 rw [heap_alloc_old _ _ (by simp)];exact heap_alloc_new w o
theorem Jy {w:World} {b k o:Nat} {v:Value} (x:Int) (h:w.cell? ⟨k,o,none⟩=some v) (hne:¬ k=b):(w.setCell ⟨b,0,none⟩ (.int .i64 x)).cell? ⟨k,o,none⟩=some v :=
 (World.cell?_of_block (Below.heap_setCell _ _ _ _ hne)).trans h
set_option maxHeartbeats 2000000 in
theorem TQ (a e:Nat) (B:Nat) (w0 w:World) (o:Obj) (s:ByteArray) (hs:s.size≤1000000) (ha:a < e) (he:e≤s.size) (x y:Int) (h:jF B w0 s x y w) :
  Calls prog 169 #[(Tok.mk 3 a e).v,.pointer (some ⟨B,0,none⟩),.pointer (some ⟨B+1,0,none⟩),.pointer (some ⟨B+2,0,none⟩)] (w.alloc o) fun r w'=>r=.returned (.bool false)∧jF B w0 s a (yM s a) w'∧w'.heap[w.heap.size]?=some o:=by
 have hlt:=lt_of_block h.er;have hA:=h.step ((Below.refl _ _).alloc (Nat.le_refl _) o);have hA2:=hA.step ((Below.refl _ _).alloc (Nat.le_refl _) (.cells #[.int .i64 3,.int .i64 (a:Int),.int .i64 (e:Int)] 119));have hbx:((w.alloc o).alloc (.cells #[.int .i64 3,.int .i64 (a:Int),.int .i64 (e:Int)] 119)).heap[w.heap.size]?=some o:=by
  rw [heap_alloc_old _ _ (by simp)]; exact heap_alloc_new w o
 have hbk:((w.alloc o).alloc (.cells #[.int .i64 3,.int .i64 (a:Int),.int .i64 (e:Int)] 119)).heap[w.heap.size+1]?=some (.cells #[.int .i64 3,.int .i64 (a:Int),.int .i64 (e:Int)] 119 (0,0)):=by
  have:=heap_alloc_new (w.alloc o) (.cells #[.int .i64 3,.int .i64 (a:Int),.int .i64 (e:Int)] 119); simpa using this
 have Xx:=fun W=>P7 s hs a e ha he W
 have hn:(yM s a == 0)=false:=by unfold yM; cases (headB (s.data.toList.drop a) 34 || headB (s.data.toList.drop a) 40) <;> rfl
 generalize yM s a=q at *;have HA:=hid hA2;have kN:=hid hbx;have zS:=hid hbk;clear hA hA2 h hbx hbk;simp only [Tok.v] at *
 go_enter func169,ntmps169
 go_wp2_with fail
 generalize hW:((w.alloc o).alloc (.cells #[.int .i64 3,.int .i64 (a:Int),.int .i64 (e:Int)] 119))=wa at *;have hsz:wa.heap.size=w.heap.size+2:=by rw [← hW]; simp
 clear hW;have HK:Own3 wa (w.heap.size+1) _ _ _ _:=⟨zS.out⟩;have a0:=HK.c0;have a1:=HK.c1;have a2:=HK.c2;have a3:=cell_of_one HA.out.txt;have f1:=free_of_one HA.out.pl;have f2:=free_of_one HA.out.er;have g1:=cell_of_one HA.out.pl;have g2:=cell_of_one HA.out.er;have n1:¬ B+1=w.heap.size+1:=by omega
 have n2:¬ B+2=w.heap.size+1:=by omega
 have n3:¬ w.heap.size+1=B+1:=by omega
 have n4:¬ w.heap.size+1=B+2:=by omega
 have m1:¬ B=B+1:=by omega
 have m2:¬ B=B+2:=by omega
 clear HK
 go_region_held3 (fun w'=>w'.cell? ⟨w.heap.size+1,0,none⟩=some (.int .i64 3)∧w'.cell? ⟨w.heap.size+1,1,none⟩=some (.int .i64 (a:Int))∧w'.cell? ⟨w.heap.size+1,2,none⟩=some (.int .i64 (e:Int))∧w'.cell? ⟨B,0,none⟩=some (.string s))
  (first
   | go_keep
   | (go_split_ands; refine ⟨?_,?_,?_,?_⟩ <;> (rw [hbp.cell (by simp; omega)]; assumption)))
  (first
   | (go_at_call 170; refine (Xx _).mono ?_; rintro r wp ⟨rfl,hbp⟩; have b1:=(hbp.cell (p:=⟨B+1,0,none⟩) (by simp; omega)).trans g1; have b2:=(hbp.cell (p:=⟨B+2,0,none⟩) (by simp; omega)).trans g2; have k1:=(hbp.frozen (p:=⟨B+1,0,none⟩) (by simp; omega)).trans f1; have k2:=(hbp.frozen (p:=⟨B+2,0,none⟩) (by simp; omega)).trans f2; have p0:=Jy (a:Int) ((hbp.cell (p:=⟨w.heap.size+1,0,none⟩) (by simp; omega)).trans a0) n3; have q0:=Jy q p0 n4; have p1:=Jy (a:Int) ((hbp.cell (p:=⟨w.heap.size+1,1,none⟩) (by simp; omega)).trans a1) n3; have q1:=Jy q p1 n4; have p2:=Jy (a:Int) ((hbp.cell (p:=⟨w.heap.size+1,2,none⟩) (by simp; omega)).trans a2) n3; have q2:=Jy q p2 n4))
 have HF:=(HA.out.step ((Below.refl wa.heap.size wa).drew.trans hbp)).put (a:Int) q;have hbx2:((wp.setCell ⟨B+1,0,none⟩ (.int .i64 (a:Int))).setCell ⟨B+2,0,none⟩ (.int .i64 q)).heap[w.heap.size]?=some o:=by
  rw [Below.heap_setCell _ _ _ _ (show w.heap.size≠B+2 by omega),Below.heap_setCell _ _ _ _ (show w.heap.size≠B+1 by omega)];exact (hbp.block _ (show w.heap.size < wa.drew.heap.size by show w.heap.size < wa.heap.size; omega)).trans kN.out
 generalize ((wp.setCell ⟨B+1,0,none⟩ (.int .i64 (a:Int))).setCell ⟨B+2,0,none⟩ (.int .i64 q))=W2 at *;have z0:=cell_of_one HF.er;have HF:=hid HF;have Qq:=hid hbx2;clear hbx2
 go_wp2
 go_returns
 exact ⟨rfl,HF.out,Qq.out⟩
def jy (t:Tok):Bool:=!(t.k == 3)
def firstT (s:ByteArray):List Tok→Int × Int
 | []=>(s.size,0)
 | t :: r=>bif jy t then firstT s r else ((t.a:Int),yM s t.a)
theorem uu (s:ByteArray) (l:List Tok) (t:Tok) (h:jy t=true):firstT s (l++[t])=firstT s l:=by
 induction l with
 | nil=>simp [firstT,h]
 | cons x r ih=>simp only [List.cons_append,firstT,ih]
theorem E8 (s:ByteArray) (l:List Tok) (h:∀ t ∈ l,jy t=true):firstT s l=((s.size:Int),0):=by
 induction l with
 | nil=>rfl
 | cons x r ih=>simp only [firstT]; rw [h x (by simp),ih (fun t ht=>h t (by simp [ht]))]; rfl
theorem tJ (s:ByteArray) (l:List Tok) (t:Tok) (h:∀ t ∈ l,jy t=true) (ht:jy t=false):firstT s (l++[t])=((t.a:Int),yM s t.a):=by
 induction l with
 | nil=>simp [firstT,ht]
 | cons x r ih=>simp only [List.cons_append,firstT]; rw [h x (by simp),ih (fun t ht=>h t (by simp [ht]))]; rfl
theorem Dx (s:ByteArray) (l:List Tok) (hz:∀ t ∈ l.dropLast,t.k≠0):firstT s (gu jy l)=firstT s l:=by
 induction l with
 | nil=>rfl
 | cons x r ih =>
  simp only [gu]
  cases hb:jy x
  ·simp [firstT,hb]
  ·cases r with
   | nil=>cases x.k == 0 <;> simp [gu,firstT,hb]
   | cons y t =>
    have hk:(x.k == 0)=false:=by simpa using hz x (by simp)
    simp only [hk,Bool.not_false,Bool.and_true,cond_true,firstT,hb];exact ih (fun t ht=>hz t (by simp [List.dropLast] at ht ⊢; exact .inr ht))
def fO (s:ByteArray):Int × Int:=firstT s (sF s)
set_option maxHeartbeats 1000000 in
theorem first_any (s:ByteArray) (hs:s.size≤1000000) (w:World) (hk:Kw w) :
  Calls prog 117 #[.string s] w fun e w'=>e=.returned (.tuple #[.int .i64 (firstT s (gu jy (fU s 0))).1,.int .i64 (firstT s (gu jy (fU s 0))).2])∧Below w.heap.size w w':=by
 have h0:jF w.heap.size w s s.size 0 (((w.alloc (.cells #[.string s] 9)).alloc (.cells #[.int .i64 s.size] 3)).alloc (.cells #[.int .i64 0] 28)):=by
  refine ⟨?_,?_,?_,hk.pos,(((Below.refl _ _).alloc (Nat.le_refl _) _).alloc (by simp) _).alloc (by simp; omega) _,((hk.alloc _).alloc _).alloc _⟩
  ·rw [heap_alloc_old _ _ (by simp; omega),heap_alloc_old _ _ (by simp)]; exact heap_alloc_new w _
  ·rw [heap_alloc_old _ _ (by simp)]; have:=heap_alloc_new (w.alloc (.cells #[.string s] 9)) (.cells #[.int .i64 (s.size:Int)] 3); simpa using this
  ·have:=heap_alloc_new ((w.alloc (.cells #[.string s] 9)).alloc (.cells #[.int .i64 (s.size:Int)] 3)) (.cells #[.int .i64 0] 28); simpa using this
 have HE:=AU jy (fun l W=>jF w.heap.size w s (firstT s l).1 (firstT s l).2 W) 169 #[.pointer (some ⟨w.heap.size,0,none⟩),.pointer (some ⟨w.heap.size+1,0,none⟩),.pointer (some ⟨w.heap.size+2,0,none⟩)] ZE s hs (fun l W W' h hb=>h.step hb) (fun l W h=>h.kw)
  (fun l a W o ha hl hg h=>by
   cases hb:jy (dR s a)
   ·have hlt:a < s.size:=by
     apply Decidable.byContradiction
     intro hn
     have:a=s.size:=by omega
     rw [this,jd] at hb;exact absurd hb (by simp [jy])
    have h3:(dR s a).k=3:=by unfold jy at hb; simpa using hb
    have Uj:=nP s a hlt;have Q5:(dR s a).a=a:=by rw [lM s a hlt]
    rw [tJ s l _ hg hb,Q5];have e:dR s a=⟨3,a,(dR s a).e⟩:=by
     generalize dR s a=T at *;obtain ⟨x,y,z⟩:=T
     simp only at h3 Q5
     subst h3 Q5
     rfl
    rw [e];exact TQ a (dR s a).e w.heap.size w W o s hs Uj.1 Uj.2 _ _ h
   ·rw [uu s l _ hb]
    have h2:=E8 s l hg;rw [h2] at h ⊢;exact WM (dR s a) (by unfold jy at hb; simpa using hb) w.heap.size w W o s _ h)
  _ h0
 have hmf:∀ (fn:Fn) (first cap:Array Value) (w:World),(Instr.makeFunc fn first cap).run prog w=.ok (.func fn first cap) w:=fun _ _ _ _=>rfl
 clear h0 hk;generalize firstT s (gu jy (fU s 0))=q at *;obtain ⟨x,y⟩:=q
 go_enter func117,ntmps117
 go_wp2_with fail
 refine HE.mono ?_
 rintro e w1 ⟨rfl,h1⟩;have z1:=cell_of_one h1.pl;have z2:=cell_of_one h1.er;have H1:=hid h1;clear h1
 go_wp2_with fail
 go_quiet (fail)
 go_wp2
 go_ret2
 exact ⟨rfl,below_drewN H1.out.below _⟩
theorem I7 (l:List Tok) (i:Nat) (h:i < l.length):(jh l)[i * 3]?=some (.int .i64 l[i].k)∧(jh l)[i * 3+1]?=some (.int .i64 (l[i].a:Int))∧(jh l)[i * 3+2]?=some (.int .i64 (l[i].e:Int)):=by
 induction l generalizing i with
 | nil=>simp at h
 | cons x r ih =>
  cases i with
  | zero=>simp [jh]
  | succ i =>
   have:=ih i (by simpa using h)
   simp only [jh,show (i+1) * 3=i * 3+3 from by omega,show i * 3+3+1=(i * 3+1)+3 from by omega,show i * 3+3+2=(i * 3+2)+3 from by omega,List.getElem?_cons_succ,List.getElem_cons_succ];exact this
def jr (w:World) (g:Nat) (l:List Tok):Prop :=
 ∀ i,(h:i < l.length)→w.cell? ⟨g,i * 3,none⟩=some (.int .i64 l[i].k)∧w.cell? ⟨g,i * 3+1,none⟩=some (.int .i64 (l[i].a:Int))∧w.cell? ⟨g,i * 3+2,none⟩=some (.int .i64 (l[i].e:Int))
theorem jr.step {w w1:World} {g:Nat} {l:List Tok} (h:jr w g l) (hb:g < w.heap.size) (hw:Below w.heap.size w w1):jr w1 g l:=fun i hi=>by
 obtain ⟨h0,h1,h2⟩:=h i hi;exact ⟨(hw.cell (p:=⟨g,_,none⟩) hb).trans h0,(hw.cell (p:=⟨g,_,none⟩) hb).trans h1,(hw.cell (p:=⟨g,_,none⟩) hb).trans h2⟩
theorem uQ.open {w:World} {v:Value} {l:List Tok} (h:uQ w v l) (hl:0 < l.length):∃ g c,v=.slice (some ⟨g,0,none⟩) l.length c∧l.length≤c∧c≤maxLen∧g < w.heap.size∧jr w g l:=by
 obtain ⟨base,h⟩:=h
 rcases h.2 with ⟨_,h0⟩ | ⟨g,cap,cur,rfl,hg,hh,hc,hm,hs,ht⟩
 ·omega
 ·refine ⟨g,cap,rfl,hc,hm,lt_of_block hh,fun i hi=>?_⟩
  have hx:=I7 l i hi;have e:=fun j (hj:j < l.length * 3)=>h.cellAt j hj
  exact ⟨(e _ (by omega)).trans hx.1,(e _ (by omega)).trans hx.2.1,(e _ (by omega)).trans hx.2.2⟩
theorem TB (x:Int) (w:World):Calls prog 21 #[.int .i64 x] w fun e w'=>e=.returned (.int .i64 x)∧w=w':=by
 go_enter func21,ntmps21
 go_wp2
 go_ret
 exact ⟨rfl,rfl⟩
theorem info3:(prog.info? 3).map (fun i=>(i.zero,i.size,i.bytes))=some (some (.int .i64 0),1,8):=by kernel_rfl
def kindCells (l:List Tok):List Value:=l.map fun t=>.int .i64 t.k
def jB (w:World) (g:Nat) (l:List Int):Prop:=∀ i,(h:i < l.length)→w.cell? ⟨g,i,none⟩=some (.int .i64 l[i])
end Go.Proofs.YtmpmfamiegpmgaaGreatDoor
