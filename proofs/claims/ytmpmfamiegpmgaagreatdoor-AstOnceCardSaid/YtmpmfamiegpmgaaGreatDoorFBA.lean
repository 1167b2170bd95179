/-
  Counting how often tokens are met: a new row of zeros, and one more.; The law AstOnce.; The law AstOnce, as its row wants it.
-/
import Derived.Test.YtmpmfamiegpmgaaGreatDoorFB
import Derived.Laws.MakeOwn
import Derived.Test.YtmpmfamiegpmgaaGreatDoorFZB
import Derived.Test.YtmpmfamiegpmgaaGreatDoorFAA
import Derived.Test.YtmpmfamiegpmgaaGreatDoorFD
namespace Go.Proofs.YtmpmfamiegpmgaaGreatDoor
open Go.RowKit
set_option linter.unusedVariables false
set_option linter.unusedSimpArgs false

/-- 'make([]T, n, c)', both variable: a new block of zeros. -/
theorem wpList_make_room {P:Program} (w:World) {ops:Array Oper} {rest:List Oper} {o:Oper} {a:Act} {Q:Exit→Act→World→Prop}
  (hg:o.guard=none) (l c:Operand) (t:TypeId) (hop:o.op=Op.makeSlice t l c)
  (e:TypeId) (i:TypeInfo) (k:IntKind) (x:Int) (h1:P.underlying t=some (.slice e)) (h2:P.info? e=some i) (h3:i.zero=some (.int k x)) (h4:i.size=1)
  (kl kc:IntKind) (L C:Int) (n m:Nat) (hl:a.eval l=.int kl L) (hc:a.eval c=.int kc C) (hL:L=(n:Int)) (hC:C=(m:Int)) (hnm:n≤m) (b2:i.bytes * m≤281474976710656) (b3:(m:Int)≤9223372036854775807)
  (hK:wpList P ops Q rest (a.put o.dst (.slice (some ⟨w.heap.size,0,none⟩) n m)) (w.alloc (.cells (List.replicate m (Value.int k x)).toArray e))) :
  wpList P ops Q (o :: rest) a w:=by
 refine wpList_plain hg fun K hK'=>?_
 have hb:(i.bytes:Int) * (m:Int)≤281474976710656:=by
  have h:((i.bytes * m:Nat):Int)≤281474976710656:=by omega
  rwa [Int.natCast_mul] at h
 have hrun:=run_make (P:=P) w t e i (.int k x) h1 h2 h3 kl kc (n:Int) (m:Int) (by omega) (by omega) hb b3
 have hm:madeCells (Value.int k x).cells (m * 1)=(List.replicate m (Value.int k x)).toArray:=by
  rw [← toList_madeCells_one (Value.int k x) m,Nat.mul_one]
  rfl
 rw [h4,Int.toNat_natCast,Int.toNat_natCast,hm] at hrun
 subst hL hC
 unfold Oper.wp
 simp [execOp,hop,hl,hc,hrun,Result.andThen]
 exact hK' _ _ hK

/-- How often kids are met, as the law counts them. -/
def SeenAt (w:World) (gs N:Nat) (f:Nat→Int):Prop:=∃ cur:Array Value,w.heap[gs]?=some (.cells cur 3 (0,0))∧∀ k,k < N→cur[k]?=some (.int .i64 (f k))
theorem SeenAt.cell {w:World} {gs N:Nat} {f:Nat→Int} (h:SeenAt w gs N f) {k:Nat} (hk:k < N):w.cell? ⟨gs,k,none⟩=some (.int .i64 (f k))∧w.frozen? ⟨gs,k,none⟩=false:=by
 obtain ⟨cur,h1,h2⟩:=h
 exact ⟨by rw [Lib.cell_of_heap h1,h2 k hk],frozen_of_row _ _ _ _ _ h1⟩
theorem SeenAt.kept {w w1:World} {gs N:Nat} {f:Nat→Int} (h:SeenAt w gs N f) (hw:w1.heap[gs]?=w.heap[gs]?):SeenAt w1 gs N f:=by
 obtain ⟨cur,h1,h2⟩:=h
 exact ⟨cur,hw.trans h1,h2⟩
theorem SeenAt.set {w:World} {gs N:Nat} {f:Nat→Int} (h:SeenAt w gs N f) {k:Nat} (hk:k < N) (u:Int):SeenAt (w.setCell ⟨gs,k,none⟩ (.int .i64 u)) gs N (fun i=>bif i == k then u else f i):=by
 obtain ⟨cur,h1,h2⟩:=h
 refine ⟨_,heap_setCell_same w gs k cur 3 _ h1,fun i hi=>?_⟩
 cases hik:(i == k)
 ·have:i≠k:=by simpa using hik
  rw [Array.getElem?_setIfInBounds_ne (fun e=>this e.symm),h2 i hi]; simp [hik]
 ·have:i=k:=by simpa using hik
  subst this
  have:i < cur.size:=(Array.getElem?_eq_some_iff.1 (h2 i hi)).1
  simp [this]
theorem SeenAt.congr {w:World} {gs N:Nat} {f f':Nat→Int} (h:SeenAt w gs N f) (hf:∀ k,k < N→f k=f' k):SeenAt w gs N f':=by
 obtain ⟨cur,h1,h2⟩:=h
 exact ⟨cur,h1,fun k hk=>by rw [h2 k hk,hf k hk]⟩
theorem SeenAt.lt {w:World} {gs N:Nat} {f:Nat→Int} (h:SeenAt w gs N f):gs < w.heap.size:=by
 obtain ⟨cur,h1,_⟩:=h
 exact (Array.getElem?_eq_some_iff.1 h1).1
end Go.Proofs.YtmpmfamiegpmgaaGreatDoor

namespace Go.Proofs.YtmpmfamiegpmgaaGreatDoor
open Go.RowKit
set_option maxRecDepth 20000
set_option linter.unusedVariables false
set_option linter.unusedSimpArgs false

theorem flat_lies (w:World) (y:Br):y.Lies w→∀ z ∈ y.flatB,z.Lies w:=by
 induction y using Br.ind with
 | hP h ks ih =>
  intro hl z hz
  rw [flatB_eq] at hz
  rcases List.mem_cons.1 hz with rfl | hz
  ·exact hl
  ·obtain ⟨k,h1,h2⟩:=mem_flats hz
   exact ih k h1 (((lies_iff _ _).1 hl).2.2 k h1) z h2
theorem grown_setc (w:World) (g j:Nat) (u:Value):w.grownBy (w.setCell ⟨g,j,none⟩ u) (some g):=⟨rfl,rfl,rfl,by simp,fun b hb hne=>Below.heap_setCell _ _ _ _ (fun e=>hne (congrArg some e))⟩
def metF (js:List Nat) (c:Nat) (j:Nat):Int:=bif (js.take c).contains j then 1 else 0
theorem metF_new {js:List Nat} (hn:js.Nodup) {c j:Nat} (h:js[c]?=some j):metF js c j=0∧∀ k,(bif k == j then 1 else metF js c k)=metF js (c+1) k:=by
 obtain ⟨hc,rfl⟩:=List.getElem?_eq_some_iff.1 h
 have htk:js.take (c+1)=js.take c++[js[c]]:=List.take_succ_eq_append_getElem hc
 have hnot:js[c] ∉ js.take c:=by
  have h2:(js.take (c+1)).Nodup:=hn.sublist (List.take_sublist _ _)
  rw [htk] at h2
  intro hm
  exact (List.nodup_append.1 h2).2.2 _ hm _ (by simp) rfl
 refine ⟨by simp [metF,hnot],fun k=>?_⟩
 unfold metF
 rw [htk,List.contains_append]
 by_cases hk:k=js[c]
 ·subst hk; simp
 ·rw [show (k == js[c])=false by simpa using hk]
  simp [hk]
set_option maxHeartbeats 60000000 in
theorem once_any (s:ByteArray) (hs:s.size≤maxLen) (file first:Int) (hwf:(Lit.int .i64 file).wf=true) (hwf1:(Lit.int .i64 first).wf=true) (w:World) (hk:Kw w) :
  Calls Tryz.prog 5 #[.string s,.int .i64 file,.int .i64 first] w fun e w'=>e=.returned (.bool true)∧Below w.heap.size w w':=by
 have HAL0:=Lib.hid (alive8_any w hk)
 by_cases hbig:5000 < s.size
 ·have g1:(5000:Int) < (s.size:Int):=by omega
  clear hk hwf hwf1
  go_enter Tryz.func5,Tryz.ntmps5
  go_wp2_with fail
  refine HAL0.out.mono ?_
  rintro x w' ⟨rfl,hb⟩
  have HB:=Lib.hid hb
  clear hb
  go_wp2_with fail
  go_ret
  exact ⟨rfl,HB.out⟩
 by_cases hneg:first < 0
 ·have g1:¬ (5000:Int) < (s.size:Int):=by omega
  clear hk hwf hwf1
  go_enter Tryz.func5,Tryz.ntmps5
  go_wp2_with fail
  refine HAL0.out.mono ?_
  rintro x w' ⟨rfl,hb⟩
  have HB:=Lib.hid hb
  clear hb
  go_wp2_with fail
  go_ret
  exact ⟨rfl,HB.out⟩
 by_cases hfar:1000000 < first
 ·have g1:¬ (5000:Int) < (s.size:Int):=by omega
  clear hk hwf hwf1
  go_enter Tryz.func5,Tryz.ntmps5
  go_wp2_with fail
  refine HAL0.out.mono ?_
  rintro x w' ⟨rfl,hb⟩
  have HB:=Lib.hid hb
  clear hb
  go_wp2_with fail
  go_ret
  exact ⟨rfl,HB.out⟩
 have h1:0≤first:=by omega
 have h2:first≤1000000:=by omega
 have hs5:s.size≤5000:=by omega
 have HFIL:Hid (Calls Tryz.prog 17 #[.string s,.int .i64 file,.int .i64 first] w fun x W=>Below w.heap.size w W∧((∃ a c,c≠0∧x=.returned (.tuple #[zeroV,.slice none 0 0,.int .i64 a,.int .i64 c])) ∨
   ∃ nd oa m,OnceF s file first nd oa m W∧x=.returned (.tuple #[nd.h.val,.slice (some ⟨oa,0,none⟩) m m,.int .i64 0,.int .i64 0]))):=Lib.hid ((astFile_any s (by omega) file first hwf1 w hk).mono (by
  rintro x W ⟨hb,⟨a,c,hc,_,rfl⟩ | ⟨y0,n,v,oa,m,ts,h,rfl⟩⟩
  ·exact ⟨hb,.inl ⟨a,c,hc,rfl⟩⟩
  ·obtain ⟨nd,rfl,hF⟩:=once_of s hs5 file first h1 h2 h
   exact ⟨hb,.inr ⟨nd,oa,m,hF,rfl⟩⟩))
 have HK0:=Lib.hid hk
 have g1:¬ (5000:Int) < (s.size:Int):=by omega
 have g2:¬ first < 0:=by omega
 have g3:¬ (1000000:Int) < first:=by omega
 have g4:s.size≤9223372036854775807:=by omega
 have infoI:(Tryz.prog.info? 3).map (fun i=>(i.zero,i.size,i.bytes))=some (some (.int .i64 0),1,8):=by kernel_rfl
 obtain ⟨i0,hi0,hy0,hy1,hy2⟩:=info_parts infoI
 clear infoI hk hbig hneg hfar hs HAL0
 go_enter Tryz.func5,Tryz.ntmps5
 go_wp2_with fail
 refine HFIL.out.mono ?_
 clear HFIL
 rintro x W ⟨hb,⟨a,c,hc,rfl⟩ | ⟨nd,oa,m,hF,rfl⟩⟩
 ·have HB:=Lib.hid hb
  have HK:=Lib.hid (HK0.out.step hb)
  have hc2:(c != 0)=true:=by simpa using hc
  clear hb
  simp only [zeroV]
  go_wp2_with fail
  refine (no_any c _).mono ?_
  rintro x w' ⟨rfl,rfl⟩
  have HBA:Hid (Below W.heap.size W (W.alloc (.cells #[.int .i64 0,.int .i64 0,.int .i64 0,.int .i64 0,.slice none 0 0,.slice none 0 0] 26))):=Lib.hid ((Below.refl _ _).alloc (Nat.le_refl _) _)
  have HAV:=Lib.hid (alive8_any _ (HK.out.step HBA.out))
  go_wp2_with fail
  refine HAV.out.mono ?_
  rintro x w9 ⟨rfl,hb9⟩
  have HB9:=Lib.hid (HB.out.trans ((HBA.out.trans (hb9.mono HBA.out.size)).mono HB.out.size))
  clear hb9 HAV
  go_wp2_with fail
  go_ret
  exact ⟨rfl,HB9.out⟩
 have hs:=hs5
 have HB:=Lib.hid hb
 have HK:=Lib.hid (HK0.out.step hb)
 have hm9:=hF.m9
 have hlies:=hF.lies
 obtain ⟨js,hjs,hjn,hjl,hjm⟩:=hF.js
 have HJL2:=Lib.hid hjl
 have HJS:=Lib.hid hjs
 have HJN:=Lib.hid hjn
 have HJM:=Lib.hid hjm
 have HSP:=Lib.hid hF.span
 obtain ⟨K,hK⟩:∃ K,K=nd.flatB.length:=⟨_,rfl⟩
 have hK9:K≤10000000:=by have:=hF.len; omega
 have HLEN:=Lib.hid hF.len
 have HOAL:=Lib.hid hF.oal
 obtain ⟨ov,hov,hord⟩:=hF.occ
 have HOV:=Lib.hid hov
 have HORD:=Lib.hid hord
 clear hov hord
 have HKL:=Lib.hid hK
 have hbx:=box_good nd W hlies 26
 obtain ⟨nh,nk⟩:=nd
 obtain ⟨zk,zm,zf,zt,znp,znn,znc,zns,zkp,zkn,zkc⟩:=nh
 simp only [Br.h] at hbx
 clear hF hjs hjn hjm hK hjl hb
 simp only [Hd.val,Br.h]
 go_wp2_with fail
 refine (no_any 0 _).mono ?_
 rintro x w' ⟨rfl,rfl⟩
 obtain ⟨W2,hW2⟩:∃ W2,W2=W.alloc (.cells #[.int .i64 zk,.int .i64 zm,.int .i64 zf,.int .i64 zt,.slice znp znn znc,.slice zkp zkn zkc] 26):=⟨_,rfl⟩
 rw [← hW2] at hbx ⊢
 have hb2:Below W.heap.size W W2:=by rw [hW2]; exact (Below.refl _ _).alloc (Nat.le_refl _) _
 have hz2:W2.heap.size=W.heap.size+1:=by rw [hW2]; simp
 clear hW2
 obtain ⟨W3,hW3⟩:∃ W3,W3=W2.alloc (.cells (Array.replicate m (Value.int .i64 0)) 3):=⟨_,rfl⟩
 have hb3:Below W2.heap.size W2 W3:=by rw [hW3]; exact (Below.refl _ _).alloc (Nat.le_refl _) _
 have hse:SeenAt W3 W2.heap.size m (metF js 0):=⟨_,by rw [hW3]; exact heap_alloc_new W2 _,fun k hk=>by simp [hk,metF]⟩
 have hat:BrAt W3 W.heap.size 0 ⟨zk,zm,zf,zt,znp,znn,znc,zns,zkp,zkn,zkc⟩:=hbx.at_.step hbx.lt hb3
 obtain ⟨c0,c1,c2,c3,c4,c5⟩:=hat
 dsimp only at c0 c1 c2 c3 c4 c5
 have hl3:=hbx.lies.step _ hb3
 have HLW:Hid (Br.Lies W (Br.mk ⟨zk,zm,zf,zt,znp,znn,znc,zns,zkp,zkn,zkc⟩ nk)):=Lib.hid hlies
 have HL3:=Lib.hid hl3
 have HAL:=Lib.hid (refAll_any _ W3 hl3 HLEN.out)
 have HSE:=Lib.hid hse
 have HB3:=Lib.hid (hb2.trans (hb3.mono hb2.size))
 have HB2:=Lib.hid hb2
 have HZ2:=Lib.hid hz2
 have HZ3:=Lib.hid hb3.size
 clear hbx hlies hb2 hb3 hse hl3 hz2
 rw [hW3] at c0 c1 c2 c3 c4 c5 HAL
 have HW3:=Lib.hid hW3
 clear hW3
 go_wp2_with (at_make; refine wpList_make_room _ rfl _ _ 23 rfl 3 i0 .i64 0 Tryz.underlying23 hi0 hy0 hy1 .i64 .i64 _ _ m m rfl rfl rfl rfl (Nat.le_refl _) (by rw [hy2]; omega) (by omega) ?_; rw [List.toArray_replicate])
 refine HAL.out.mono ?_
 rintro x W4 ⟨v,rfl,hrow,hb4⟩
 rw [← HW3.out] at hrow hb4
 obtain ⟨ga,gc,rfl,hga,hgl,hgc,_⟩:=own_pos hrow (flatB_pos _)
 rw [← HKL.out] at hrow hgc ⊢
 have HFLI:Hid (∀ z ∈ (Br.mk ⟨zk,zm,zf,zt,znp,znn,znc,zns,zkp,zkn,zkc⟩ nk).flatB,z.Lies W):=Lib.hid fun z hz=>flat_lies W _ HLW.out z hz
 obtain ⟨fb,hfb⟩:∃ fb,fb=(Br.mk ⟨zk,zm,zf,zt,znp,znn,znc,zns,zkp,zkn,zkc⟩ nk).flatB:=⟨_,rfl⟩
 rw [← hfb] at HFLI HJS HSP HKL HLEN hrow
 have HROW:=Lib.hid hrow
 have HSE4:=Lib.hid (HSE.out.kept (hb4.block _ HSE.out.lt))
 have HB4:=Lib.hid (HB3.out.trans (hb4.mono HB3.out.size))
 have HGN:Hid (ga≠W2.heap.size):=Lib.hid (by have:=HSE.out.lt; omega)
 have hgs4:=HSE4.out.lt
 obtain ⟨gs,hgs⟩:∃ gs,gs=W2.heap.size:=⟨_,rfl⟩
 have HW2s:Hid (W.heap.size≤gs):=Lib.hid (by rw [hgs]; have:=HB2.out.size; omega)
 rw [← hgs] at HSE4 HGN hgs4 ⊢
 clear hrow hb4 hfb HSE HAL HL3 HB3 c0 c1 c2 c3 c4 c5 HZ3 HZ2 HB2 HW3 hgs hga
 have HGL:=Lib.hid hgl
 have HJL:Hid ((nmsB fb).length=js.length):=Lib.hid (by rw [HJS.out,List.length_map])
 go_wp2_with fail
 go_loopw [58] (fun iv wr=>∃ k:Nat,k≤K∧iv=.int .i64 k∧Hid (W4.grownBy wr (some gs))∧Hid (SeenAt wr gs m (metF js (nmsB (fb.take k)).length))) (fun iv _=>K - (intOf iv).toNat)
 case atStart=>exact ⟨0,by omega,rfl,Lib.hid (grown_same _ _),Lib.hid (by simpa [nmsB] using HSE4.out)⟩
 case round =>
  obtain ⟨k,hk0,rfl,HG,HS⟩:=hrel
  have hsz:=HG.out.size
  by_cases hlt:k < K
  ·have hkl:k < fb.length:=by rw [← HKL.out]; exact hlt
   have hcz:∀ j,j < 6→wr.cell? ⟨ga,k * 6+j,none⟩=(hcells fb[k].h)[j]?:=fun j hj=>by
    have h9:=HROW.out
    have h8:W4.cell? ⟨ga,k * 6+j,none⟩=(hcells fb[k].h)[j]?:=by
     rw [← cellsK_at fb k j hkl hj]
     obtain ⟨u,hu⟩:∃ u,(cellsK fb)[k * 6+j]?=some u:=⟨_,List.getElem?_eq_getElem (by rw [cellsK_length]; omega)⟩
     rw [hu]
     exact own_cell h9 _ _ hu
    rw [← h8]
    exact World.cell?_of_block (a:=⟨ga,_,none⟩) (HG.out.block ga HGL.out (fun e=>HGN.out (Option.some.inj e)))
   have hzm:fb[k] ∈ fb:=List.getElem_mem hkl
   obtain ⟨hp0,hp1,hp2⟩:=HSP.out _ hzm
   have hzl:=HFLI.out _ hzm
   have htk:fb.take (k+1)=fb.take k++[fb[k]]:=List.take_succ_eq_append_getElem hkl
   have HTK:Hid (nmsB (fb.take (k+1))=nmsB (fb.take k)++fb[k].h.ns):=Lib.hid (by rw [htk,nmsB_append,nmsB_one])
   have HSUM:Hid (∃ rest,nmsB fb=nmsB (fb.take k)++(fb[k].h.ns++rest)):=Lib.hid ⟨nmsB (fb.drop (k+1)),by
    conv=>lhs; rw [← List.take_append_drop (k+1) fb,nmsB_append,htk,nmsB_append,nmsB_one]
    rw [List.append_assoc]⟩
   have c0:=hcz 0 (by omega)
   have c1:=hcz 1 (by omega)
   have c2:=hcz 2 (by omega)
   have c3:=hcz 3 (by omega)
   have c4:=hcz 4 (by omega)
   have c5:=hcz 5 (by omega)
   clear hcz hzm htk
   generalize fb[k]=z at *
   clear hkl
   obtain ⟨hh,ks⟩:=z
   obtain ⟨yk,ym,yf,yt,np,nn,nc,ns,kp,kn,kc⟩:=hh
   have hnames:=((lies_iff _ _).1 hzl).1
   simp only [Br.h,hcells,List.getElem?_cons_zero,List.getElem?_cons_succ,Nat.add_zero] at c0 c1 c2 c3 c4 c5 hp0 hp1 hp2 hnames HTK HSUM
   have hnn:nn=ns.length:=hnames.1
   have HN:=Lib.hid hnames
   have HNN:=Lib.hid hnn
   have q1:(0:Int)≤(k:Int):=by omega
   have q2:(k:Int) < (K:Int):=by omega
   have hnn9:nn≤10000000:=by
    obtain ⟨rest,hr⟩:=HSUM.out
    have h7:=congrArg List.length hr
    rw [List.length_append,List.length_append,HJL.out] at h7
    have h6:js.length≤m:=by
     rw [HJL2.out]; exact Nat.le_refl _
    omega
   clear hnames hzl hnn
   have HJI:Hid (∀ i x,ns[i]?=some x→∃ j,js[(nmsB (fb.take k)).length+i]?=some j∧x=first+(j:Int)):=Lib.hid fun i x hx=>by
    obtain ⟨rest,hr⟩:=HSUM.out
    obtain ⟨hil,hx2⟩:=List.getElem?_eq_some_iff.1 hx
    have h6:(nmsB fb)[(nmsB (fb.take k)).length+i]?=some x:=by
     rw [hr,List.getElem?_append_right (by omega),Nat.add_sub_cancel_left,List.getElem?_append_left hil,hx]
    rw [HJS.out,List.getElem?_map,Option.map_eq_some_iff] at h6
    obtain ⟨j,h7,h8⟩:=h6
    exact ⟨j,h7,h8.symm⟩
   obtain ⟨cc,hcc⟩:∃ cc,cc=(nmsB (fb.take k)).length:=⟨_,rfl⟩
   have HTK2:Hid ((nmsB (fb.take (k+1))).length=cc+nn):=Lib.hid (by rw [HTK.out,List.length_append,hcc,HNN.out])
   rw [← hcc] at HS HJI
   clear hcc HTK HSUM
   go_wp2_with fail
   obtain ⟨wb,hwb⟩:∃ wb,wb=wr.alloc (.cells #[.int .i64 yk,.int .i64 ym,.int .i64 yf,.int .i64 yt,.slice np nn nc,.slice kp kn kc] 26):=⟨_,rfl⟩
   rw [← hwb]
   have hbB:Below wr.heap.size wr wb:=by rw [hwb]; exact (Below.refl _ _).alloc (Nat.le_refl _) _
   have hgsl:=HS.out.lt
   have HBX:Hid (BrAt wb wr.heap.size 0 ⟨yk,ym,yf,yt,np,nn,nc,ns,kp,kn,kc⟩):=Lib.hid (by
    have hc:=Lib.cell_of_heap (heap_alloc_new wr (.cells #[.int .i64 yk,.int .i64 ym,.int .i64 yf,.int .i64 yt,.slice np nn nc,.slice kp kn kc] 26))
    rw [← hwb] at hc
    exact ⟨(hc 0).trans rfl,(hc 1).trans rfl,(hc 2).trans rfl,(hc 3).trans rfl,(hc 4).trans rfl,(hc 5).trans rfl⟩)
   have hwbz:wr.heap.size < wb.heap.size:=by rw [hwb]; simp
   have HG2:=Lib.hid (grown_trans HG.out (grown_below hbB _))
   have HS2:=Lib.hid (HS.out.kept (hbB.block _ hgsl))
   have HNE:Hid (wr.heap.size≠gs):=Lib.hid (by omega)
   clear hwb hbB c0 c1 c2 c3 c4 c5
   obtain ⟨d0,d1,d2,d3,d4,d5⟩:=HBX.out
   simp only [Nat.zero_add] at d0 d1 d2 d3 d4 d5
   obtain ⟨wo,hwo⟩:∃ wo,wo=wr:=⟨_,rfl⟩
   subst hwo
   go_loopw [65] (fun iv wr=>∃ i:Nat,i≤nn∧iv=.int .i64 i∧Hid (wb.grownBy wr (some gs))∧Hid (SeenAt wr gs m (metF js (cc+i)))) (fun iv _=>nn - (intOf iv).toNat)
   case atStart=>exact ⟨0,by omega,rfl,Lib.hid (grown_same _ _),HS2⟩
   case round =>
    obtain ⟨i,hi,rfl,HGi,HSi⟩:=hrel
    have hszi:=HGi.out.size
    by_cases hli:i < nn
    ·obtain ⟨b1,off,rfl,hc1,hb1,hatn⟩:=HN.out.2.resolve_left (by omega)
     have hil:i < ns.length:=by rw [← HNN.out]; exact hli
     obtain ⟨j,hj1,hj2⟩:=HJI.out i ns[i] (List.getElem?_eq_getElem hil)
     have e0:wr.cell? ⟨b1,off+i,none⟩=some (.int .i64 (first+(j:Int))):=by
      rw [← hj2]
      have hw2:=HW2s.out
      have hbn:b1≠gs:=by omega
      have hb44:=HB4.out.size
      have h9:=(HB4.out.cell (p:=⟨b1,off+i,none⟩) hb1).trans (hatn i hil)
      rw [World.cell?_of_block (a:=⟨b1,off+i,none⟩) (HGi.out.block b1 (by have:=HG2.out.size; omega) (fun e=>hbn (Option.some.inj e))),World.cell?_of_block (a:=⟨b1,off+i,none⟩) (HG2.out.block b1 (by omega) (fun e=>hbn (Option.some.inj e)))]
      exact h9
     have hjm:j < m:=(HJM.out j).1 (List.mem_of_getElem? hj1)
     obtain ⟨hz0,hzn⟩:=metF_new HJN.out hj1
     obtain ⟨e1,e2⟩:=HSi.out.cell hjm
     rw [hz0] at e1
     have HZN:=Lib.hid hzn
     have r1:(0:Int)≤(i:Int):=by omega
     have r2:(i:Int) < (nn:Int):=by omega
     have r3:¬ first+(j:Int) < first:=by omega
     have r4:IntKind.i64.wrap (first+(j:Int) - first)=(j:Int):=by rw [show first+(j:Int) - first=(j:Int) by omega]; exact IntWalk.i64_in _ (by omega)
     have r5:¬ (m:Int)≤(j:Int):=by omega
     have r6:(0:Int)≤(j:Int):=by omega
     have r7:(j:Int) < (m:Int):=by omega
     have HJ:=Lib.hid hjm
     clear hatn hj1 hj2 hjm hz0 hzn
     generalize hx:first+(j:Int)=x at *
     clear hx
     go_wp2_with fail
     go_roundw
     case rel=>exact ⟨i+1,by omega,by go_num,Lib.hid (grown_trans HGi.out (grown_setc _ _ _ _)),Lib.hid ((HSi.out.set HJ.out 1).congr fun q _=>HZN.out q)⟩
     case measure=>simp [intOf]; omega
    ·have hin:i=nn:=by omega
     subst hin
     have hbl:wr.cell? ⟨wo.heap.size,2,none⟩=some (.int .i64 yf)∧wr.cell? ⟨wo.heap.size,3,none⟩=some (.int .i64 yt):=by
      constructor
      ·rw [World.cell?_of_block (a:=⟨wo.heap.size,2,none⟩) (HGi.out.block wo.heap.size hwbz (fun e=>HNE.out (Option.some.inj e)))]; exact d2
      ·rw [World.cell?_of_block (a:=⟨wo.heap.size,3,none⟩) (HGi.out.block wo.heap.size hwbz (fun e=>HNE.out (Option.some.inj e)))]; exact d3
     obtain ⟨f2,f3⟩:=hbl
     have s1:¬ yf < 0:=by omega
     have s2:¬ yt < yf:=by omega
     have s3:¬ (s.size:Int) < yt:=by omega
     clear d0 d1 d2 d3 d4 d5
     go_wp2_with fail
     go_roundw
     case rel=>exact ⟨k+1,by omega,by go_num,Lib.hid (grown_trans HG2.out HGi.out),Lib.hid (by rw [HTK2.out]; exact HSi.out)⟩
     case measure=>simp [intOf]; omega
  ·have hkK:k=K:=by omega
   subst hkK
   have HS1:Hid (SeenAt wr gs m fun _=>1):=Lib.hid (HS.out.congr fun j hj=>by
    rw [HKL.out,List.take_length,HJL.out]
    unfold metF
    rw [List.take_length]
    have:js.contains j=true:=by simpa using (HJM.out j).2 hj
    rw [this]; rfl)
   clear HS
   obtain ⟨w5,hw5⟩:∃ w5,w5=wr:=⟨_,rfl⟩
   subst hw5
   have HO5:Hid (∀ (W':World),Below w5.heap.size w5 W'→∀ i,i < m→OccAt W' oa (i * 5) (ov i)):=Lib.hid fun W' hW' i hi=>by
    have o1:=HOAL.out
    have o2:=HW2s.out
    have o3:=HB4.out.size
    have o4:=HG.out.size
    refine (HOV.out i hi).1.ext fun j _=>?_
    rw [hW'.cell (p:=⟨oa,_,none⟩) (by show oa < _; omega),World.cell?_of_block (a:=⟨oa,_,none⟩) (HG.out.block oa (by omega) (fun e=>by have:=Option.some.inj e; omega))]
    exact HB4.out.cell (p:=⟨oa,_,none⟩) o1
   have HM5:Hid (∀ (W':World),Below w5.heap.size w5 W'→∀ i,i < m→W'.cell? ⟨gs,i,none⟩=some (.int .i64 1)):=Lib.hid fun W' hW' i hi=>(hW'.cell (p:=⟨gs,i,none⟩) HS1.out.lt).trans (HS1.out.cell hi).1
   have hbW5:=below_new HB4.out HG.out HW2s.out
   have HBW5:Hid (Below w.heap.size w w5):=Lib.hid (HB.out.trans (hbW5.mono HB.out.size))
   have HK5:Hid (Kw w5):=Lib.hid (HK.out.step hbW5)
   clear hbW5
   have HAE:Hid (∀ W',Kw W'→Calls Tryz.prog 16 #[] W' fun e w'=>e=.returned (.bool true)∧Below W'.heap.size W' w'):=Lib.hid fun W' hk=>alive8_any W' hk
   clear HG HS1
   go_wp2_with fail
   go_loopw [109] (fun iv wr=>∃ i:Nat,i≤m∧iv=.int .i64 i∧Hid (Below w5.heap.size w5 wr)) (fun iv _=>m - (intOf iv).toNat)
   case atStart=>exact ⟨0,by omega,rfl,Lib.hid (Below.refl _ _)⟩
   case round =>
    obtain ⟨i,hi,rfl,HBi⟩:=hrel
    by_cases hli:i < m
    ·obtain ⟨u0,u1,u2,u3,u4⟩:=HO5.out wr HBi.out i hli
     obtain ⟨_,v1,v2,v3,v4,v5⟩:=HOV.out i hli
     have w1:=HM5.out wr HBi.out i hli
     have HKi:=Lib.hid (HK5.out.step HBi.out)
     have hprev:Hid (∀ i',i=i'+1→wr.cell? ⟨oa,i' * 5+2,none⟩=some (.int .i64 (ov i').end_)∧(ov i').end_≤(ov i).at_):=Lib.hid fun i' hi'=>by
      subst hi'
      exact ⟨(HO5.out wr HBi.out i' (by omega)).2.2.1,HORD.out i' hli⟩
     generalize ov i=O at *
     obtain ⟨fl,at_,en,sp,dc⟩:=O
     simp only at u0 u1 u2 u3 u4 v1 v2 v3 v4 v5 hprev
     obtain ⟨a,rfl⟩:∃ a:Nat,at_=a:=⟨at_.toNat,by omega⟩
     obtain ⟨e,rfl⟩:∃ e:Nat,en=e:=⟨en.toNat,by omega⟩
     subst v1
     simp only [Int.toNat_natCast] at v5
     have r1:(0:Int)≤(i:Int):=by omega
     have r2:(i:Int) < (m:Int):=by omega
     have t1:¬ (a:Int) < 0:=by omega
     have t2:¬ (e:Int)≤(a:Int):=by omega
     have t3:¬ (s.size:Int) < (e:Int):=by omega
     have t2n:¬ e≤a:=by omega
     have t2m:a < e:=by omega
     have t3n:¬ s.size < e:=by omega
     have hae:a≤e:=by omega
     have hes:e≤s.size:=by omega
     have HMAY:Hid (∀ W',Kw W'→Calls Tryz.prog 29 #[.int .i64 sp,.string (s.extract a e)] W' fun x w'=>x=.returned (.bool true)∧W'=w'):=Lib.hid fun W' hk=>by
      have:=nmMay_any sp (s.extract a e) W' hk (by rw [ByteArray.size_extract]; omega)
      rw [v5] at this
      exact this
     clear v5
     obtain ⟨W6,hW6⟩:∃ W6,W6=wr.alloc (.cells #[.int .i64 fl,.int .i64 a,.int .i64 e,.int .i64 sp,.bool dc] 41):=⟨_,rfl⟩
     have hb6:Below wr.heap.size wr W6:=by rw [hW6]; exact (Below.refl _ _).alloc (Nat.le_refl _) _
     have hz6:wr.heap.size < W6.heap.size:=by rw [hW6]; simp
     have hc:=Lib.cell_of_heap (heap_alloc_new wr (.cells #[.int .i64 fl,.int .i64 a,.int .i64 e,.int .i64 sp,.bool dc] 41))
     rw [← hW6] at hc
     have hb56:=HBi.out.trans (hb6.mono HBi.out.size)
     have HC0:Hid (∀ W,Below W6.heap.size W6 W→W.cell? ⟨wr.heap.size,0,none⟩=some (.int .i64 fl)):=Lib.hid fun W hW=>(hW.cell (p:=⟨wr.heap.size,0,none⟩) hz6).trans ((hc 0).trans rfl)
     have HC1:Hid (∀ W,Below W6.heap.size W6 W→W.cell? ⟨wr.heap.size,1,none⟩=some (.int .i64 (a:Int))):=Lib.hid fun W hW=>(hW.cell (p:=⟨wr.heap.size,1,none⟩) hz6).trans ((hc 1).trans rfl)
     have HC2:Hid (∀ W,Below W6.heap.size W6 W→W.cell? ⟨wr.heap.size,2,none⟩=some (.int .i64 (e:Int))):=Lib.hid fun W hW=>(hW.cell (p:=⟨wr.heap.size,2,none⟩) hz6).trans ((hc 2).trans rfl)
     have HC3:Hid (∀ W,Below W6.heap.size W6 W→W.cell? ⟨wr.heap.size,3,none⟩=some (.int .i64 sp)):=Lib.hid fun W hW=>(hW.cell (p:=⟨wr.heap.size,3,none⟩) hz6).trans ((hc 3).trans rfl)
     have HC4:Hid (∀ W,Below W6.heap.size W6 W→W.cell? ⟨gs,i,none⟩=some (.int .i64 1)):=Lib.hid fun W hW=>HM5.out W (hb56.trans (hW.mono hb56.size)) i hli
     have HMY:Hid (∀ W,Below W6.heap.size W6 W→Calls Tryz.prog 29 #[.int .i64 sp,.string (s.extract a e)] W fun x w'=>x=.returned (.bool true)∧Below W6.heap.size W6 w'):=Lib.hid fun W hW=>(HMAY.out W (HKi.out.step (hb6.trans (hW.mono hb6.size)))).mono (by rintro x w' ⟨rfl,rfl⟩; exact ⟨rfl,hW⟩)
     have HPV:Hid (∀ ip,i=ip+1→(∀ W,Below W6.heap.size W6 W→W.cell? ⟨oa,ip * 5+2,none⟩=some (.int .i64 (ov ip).end_))∧(ov ip).end_≤(a:Int)):=Lib.hid fun ip hi'=>⟨fun W hW=>(HO5.out W (hb56.trans (hW.mono hb56.size)) ip (by omega)).2.2.1,(hprev.out ip hi').2⟩
     have HB56:=Lib.hid hb56
     clear hc hb56 hprev HMAY w1 hz6 HO5 HM5 HKi hb6
     go_wp2_with fail
     rw [← hW6]
     clear hW6 u0 u1 u2 u3 u4
     have s0:(0:Int)≤(a:Int):=by omega
     have s1:(a:Int)≤(e:Int):=by omega
     have s2:(e:Int)≤(s.size:Int):=by omega
     have s3:¬ (e:Int) < (a:Int):=by omega
     have s4:¬ (a:Int) < 0:=by omega
     by_cases hi0:i=0
     ·have ti:¬ (0:Int) < (i:Int):=by omega
      have tin:¬ 0 < i:=by omega
      have tp:True:=trivial
      refine wp_region_till (fun W:World=>Below W6.heap.size W6 W) 56 (by kernel_rfl) ?_
      have hS:(fun W:World=>Below W6.heap.size W6 W) W6.drew:=(Below.refl _ _).drew
      refine start_fp (N:=173) [(0,.string s),(1,.int .i64 fl),(8,.slice (some ⟨oa,0,none⟩) m m),(11,.slice (some ⟨gs,0,none⟩) m m),(16,.int .i64 (i:Int)),(17,.pointer (some ⟨wr.heap.size,0,none⟩))] (Fs.of rfl rfl (by simp [Act.eval])) ?_
      intro a0 ha0 hF
      refine take_fp 0 [2,3,4,5,6,7,8,9,10,11,12,13,14,15,16,17,18,19,20,21,22,23,24,25,26,27,28,29,30,31,32,33,34,35,36,37,38,39,40,41,42,43,44,45,46,47,48,49,50,51,52,53,54,55,56] (oi:=⟨some 114,.move (.tmp 11),23,"law.go:125",#[],none⟩) (d:=114) (v:=.slice (some ⟨gs,0,none⟩) m m) hF hS rfl rfl (by decide) (by kernel_rfl) (by kernel_rfl) (by kernel_rfl) (by kernel_rfl) (fun _ _ _ h=>h) (fun a' hA=>wanted_none rfl) (run_move_fs rfl rfl) ?_
      clear hF
      intro hF
      refine take_fp 1 [2,3,4,5,6,7,8,9,10,11,12,13,14,15,16,17,18,19,20,21,22,23,24,25,26,27,28,29,30,31,32,33,34,35,36,37,38,39,40,41,42,43,44,45,46,47,48,49,50,51,52,53,54,55,56] (oi:=⟨some 115,.move (.tmp 16),3,"law.go:125",#[],none⟩) (d:=115) (v:=.int .i64 (i:Int)) hF hS rfl rfl (by decide) (by kernel_rfl) (by kernel_rfl) (by kernel_rfl) (by kernel_rfl) (fun _ _ _ h=>h) (fun a' hA=>wanted_none rfl) (run_move_fs rfl rfl) ?_
      clear hF
      intro hF
      refine take_fp 2 [3,4,5,6,7,8,9,10,11,12,13,14,15,16,17,18,19,20,21,22,23,24,25,26,27,28,29,30,31,32,33,34,35,36,37,38,39,40,41,42,43,44,45,46,47,48,49,50,51,52,53,54,55,56] (oi:=⟨some 116,.indexAddr 23 (.tmp 114) (.tmp 115),0,"law.go:125",#[⟨0,.data⟩,⟨1,.data⟩],none⟩) (d:=116) (v:=.pointer (some ⟨gs,i,none⟩)) hF hS rfl rfl (by decide) (by kernel_rfl) (by kernel_rfl) (by kernel_rfl) (by kernel_rfl) (fun _ _ _ h=>h) (fun a' hA=>wanted_none rfl) (fun a' hA w' hw=>by have e114:=hA.get 114 rfl; have e115:=hA.get 115 rfl; have ec:∀ v,a'.eval (.const v)=v:=fun _=>rfl; clear hA; generalize a'.eval=ρ at *; simp [go_sem,ec,e114,e115,r1,r2]; try rfl) ?_
      clear hF
      intro hF
      refine take_fp 3 [4,5,6,7,8,9,10,11,12,13,14,15,16,17,18,19,20,21,22,23,24,25,26,27,28,29,30,31,32,33,34,35,36,37,38,39,40,41,42,43,44,45,46,47,48,49,50,51,52,53,54,55,56] (oi:=⟨some 117,.load 3 (.tmp 116),3,"law.go:125",#[⟨2,.data⟩],none⟩) (d:=117) (v:=.int .i64 1) hF hS rfl rfl (by decide) (by kernel_rfl) (by kernel_rfl) (by kernel_rfl) (by kernel_rfl) (fun _ _ _ h=>h) (fun a' hA=>wanted_none rfl) (fun a' hA w' hw=>by have e116:=hA.get 116 rfl; have ec:∀ v,a'.eval (.const v)=v:=fun _=>rfl; have q0:=HC4.out _ hw; clear hA; generalize a'.eval=ρ at *; simp [go_sem,ec,e116,q0]; try rfl) ?_
      clear hF
      intro hF
      refine take_fp 4 [5,6,7,8,9,10,11,12,13,14,15,16,17,18,19,20,21,22,23,24,25,26,27,28,29,30,31,32,33,34,35,36,37,38,39,40,41,42,43,44,45,46,47,48,49,50,51,52,53,54,55,56] (oi:=⟨some 118,.binOp .neq 3 (.tmp 117) (.const (.int .i64 1)) 3,4,"law.go:125",#[⟨3,.data⟩],none⟩) (d:=118) (v:=.bool false) hF hS rfl rfl (by decide) (by kernel_rfl) (by kernel_rfl) (by kernel_rfl) (by kernel_rfl) (fun _ _ _ h=>h) (fun a' hA=>wanted_none rfl) (fun a' hA w' hw=>by have e117:=hA.get 117 rfl; have ec:∀ v,a'.eval (.const v)=v:=fun _=>rfl; clear hA; generalize a'.eval=ρ at *; simp [go_sem,ec,e117]; try rfl) ?_
      clear hF
      intro hF
      refine take_fp 5 [6,7,8,9,10,11,12,13,14,15,16,17,18,19,20,21,22,23,24,25,26,27,28,29,30,31,32,33,34,35,36,37,38,39,40,41,42,43,44,45,46,47,48,49,50,51,52,53,54,55,56] (oi:=⟨some 119,.move (.tmp 118),4,"law.go:125",#[⟨4,.data⟩],none⟩) (d:=119) (v:=.bool false) hF hS rfl rfl (by decide) (by kernel_rfl) (by kernel_rfl) (by kernel_rfl) (by kernel_rfl) (fun _ _ _ h=>h) (fun a' hA=>wanted_none rfl) (run_move_fs rfl rfl) ?_
      clear hF
      intro hF
      refine take_fp 6 [7,9,10,11,12,13,14,15,16,17,18,19,20,21,22,23,24,25,26,27,28,29,30,31,32,33,34,35,36,37,38,39,40,41,42,43,44,45,46,47,48,49,50,51,52,53,54,55,56] (oi:=⟨some 120,.fieldAddr 41 (.tmp 17) 0,0,"law.go:125",#[⟨5,.guard⟩],some (5,false)⟩) (d:=120) (v:=.pointer (some ⟨wr.heap.size,0,none⟩)) hF hS rfl rfl (by decide) (by kernel_rfl) (by kernel_rfl) (by kernel_rfl) (by kernel_rfl) (fun _ _ _ h=>h) (fun a' hA=>hA.wantedB (j:=5) (dj:=119) (b:=false) rfl (by kernel_rfl) (by decide) rfl) (fun a' hA w' hw=>by have e17:=hA.get 17 rfl; have ec:∀ v,a'.eval (.const v)=v:=fun _=>rfl; clear hA; generalize a'.eval=ρ at *; simp [go_sem,ec,e17]; try rfl) ?_
      clear hF
      intro hF
      refine take_fp 7 [9,10,11,12,13,14,15,16,17,18,19,20,21,22,23,24,25,26,27,28,29,30,31,32,33,34,35,36,37,38,39,40,41,42,43,44,45,46,47,48,49,50,51,52,53,54,55,56] (oi:=⟨some 121,.load 3 (.tmp 120),3,"law.go:125",#[⟨6,.data⟩,⟨5,.guard⟩],some (5,false)⟩) (d:=121) (v:=.int .i64 fl) hF hS rfl rfl (by decide) (by kernel_rfl) (by kernel_rfl) (by kernel_rfl) (by kernel_rfl) (fun _ _ _ h=>h) (fun a' hA=>hA.wantedB (j:=5) (dj:=119) (b:=false) rfl (by kernel_rfl) (by decide) rfl) (fun a' hA w' hw=>by have e120:=hA.get 120 rfl; have ec:∀ v,a'.eval (.const v)=v:=fun _=>rfl; have q0:=HC0.out _ hw; clear hA; generalize a'.eval=ρ at *; simp [go_sem,ec,e120,q0]; try rfl) ?_
      clear hF
      intro hF
      refine take_fp 8 [9,10,11,12,13,14,15,16,17,18,19,20,21,22,23,24,25,26,27,28,29,30,31,32,33,34,35,36,37,38,39,40,41,42,43,44,45,46,47,48,49,50,51,52,53,54,55,56] (oi:=⟨some 122,.move (.tmp 1),3,"law.go:125",#[⟨5,.guard⟩],some (5,false)⟩) (d:=122) (v:=.int .i64 fl) hF hS rfl rfl (by decide) (by kernel_rfl) (by kernel_rfl) (by kernel_rfl) (by kernel_rfl) (fun _ _ _ h=>h) (fun a' hA=>hA.wantedB (j:=5) (dj:=119) (b:=false) rfl (by kernel_rfl) (by decide) rfl) (run_move_fs rfl rfl) ?_
      clear hF
      intro hF
      refine take_fp 9 [10,11,12,13,14,15,16,17,18,19,20,21,22,23,24,25,26,27,28,29,30,31,32,33,34,35,36,37,38,39,40,41,42,43,44,45,46,47,48,49,50,51,52,53,54,55,56] (oi:=⟨some 123,.binOp .neq 3 (.tmp 121) (.tmp 122) 3,4,"law.go:125",#[⟨7,.data⟩,⟨8,.data⟩,⟨5,.guard⟩],some (5,false)⟩) (d:=123) (v:=.bool false) hF hS rfl rfl (by decide) (by kernel_rfl) (by kernel_rfl) (by kernel_rfl) (by kernel_rfl) (fun _ _ _ h=>h) (fun a' hA=>hA.wantedB (j:=5) (dj:=119) (b:=false) rfl (by kernel_rfl) (by decide) rfl) (fun a' hA w' hw=>by have e121:=hA.get 121 rfl; have e122:=hA.get 122 rfl; have ec:∀ v,a'.eval (.const v)=v:=fun _=>rfl; clear hA; generalize a'.eval=ρ at *; simp [go_sem,ec,e121,e122]; try rfl) ?_
      clear hF
      intro hF
      refine take_fp 10 [11,12,13,14,15,16,17,18,19,20,21,22,23,24,25,26,27,28,29,30,31,32,33,34,35,36,37,38,39,40,41,42,43,44,45,46,47,48,49,50,51,52,53,54,55,56] (oi:=⟨some 124,.pick (.tmp 119) (.const (.bool true)) (.tmp 123),4,"law.go:125",#[⟨5,.data⟩,⟨9,.data⟩],none⟩) (d:=124) (v:=.bool false) hF hS rfl rfl (by decide) (by kernel_rfl) (by kernel_rfl) (by kernel_rfl) (by kernel_rfl) (fun _ _ _ h=>h) (fun a' hA=>wanted_none rfl) (fun a' hA w' hw=>by have e119:=hA.get 119 rfl; have e123:=hA.get 123 rfl; have ec:∀ v,a'.eval (.const v)=v:=fun _=>rfl; clear hA; generalize a'.eval=ρ at *; simp [go_sem,ec,e119,e123]; try rfl) ?_
      clear hF
      intro hF
      refine take_fp 11 [12,13,14,15,16,17,18,19,20,21,22,23,24,25,26,27,28,29,30,31,32,33,34,35,36,37,38,39,40,41,42,43,44,45,46,47,48,49,50,51,52,53,54,55,56] (oi:=⟨some 125,.move (.tmp 124),4,"law.go:125",#[⟨10,.data⟩,⟨5,.chain⟩],none⟩) (d:=125) (v:=.bool false) hF hS rfl rfl (by decide) (by kernel_rfl) (by kernel_rfl) (by kernel_rfl) (by kernel_rfl) (fun _ _ _ h=>h) (fun a' hA=>wanted_none rfl) (run_move_fs rfl rfl) ?_
      clear hF
      intro hF
      refine take_fp 12 [13,14,15,16,17,18,19,20,21,22,23,24,25,26,27,28,29,30,31,32,33,34,35,36,37,38,39,40,41,42,43,44,45,46,47,48,49,50,51,52,53,54,55,56] (oi:=⟨some 126,.fieldAddr 41 (.tmp 17) 1,0,"law.go:125",#[⟨11,.guard⟩],some (11,false)⟩) (d:=126) (v:=.pointer (some ⟨wr.heap.size,1,none⟩)) hF hS rfl rfl (by decide) (by kernel_rfl) (by kernel_rfl) (by kernel_rfl) (by kernel_rfl) (fun _ _ _ h=>h) (fun a' hA=>hA.wantedB (j:=11) (dj:=125) (b:=false) rfl (by kernel_rfl) (by decide) rfl) (fun a' hA w' hw=>by have e17:=hA.get 17 rfl; have ec:∀ v,a'.eval (.const v)=v:=fun _=>rfl; clear hA; generalize a'.eval=ρ at *; simp [go_sem,ec,e17]; try rfl) ?_
      clear hF
      intro hF
      refine take_fp 13 [14,15,16,17,18,19,20,21,22,23,24,25,26,27,28,29,30,31,32,33,34,35,36,37,38,39,40,41,42,43,44,45,46,47,48,49,50,51,52,53,54,55,56] (oi:=⟨some 127,.load 3 (.tmp 126),3,"law.go:125",#[⟨12,.data⟩,⟨11,.guard⟩],some (11,false)⟩) (d:=127) (v:=.int .i64 (a:Int)) hF hS rfl rfl (by decide) (by kernel_rfl) (by kernel_rfl) (by kernel_rfl) (by kernel_rfl) (fun _ _ _ h=>h) (fun a' hA=>hA.wantedB (j:=11) (dj:=125) (b:=false) rfl (by kernel_rfl) (by decide) rfl) (fun a' hA w' hw=>by have e126:=hA.get 126 rfl; have ec:∀ v,a'.eval (.const v)=v:=fun _=>rfl; have q0:=HC1.out _ hw; clear hA; generalize a'.eval=ρ at *; simp [go_sem,ec,e126,q0]; try rfl) ?_
      clear hF
      intro hF
      refine take_fp 14 [15,16,17,18,19,20,21,22,23,24,25,26,27,28,29,30,31,32,33,34,35,36,37,38,39,40,41,42,43,44,45,46,47,48,49,50,51,52,53,54,55,56] (oi:=⟨some 128,.binOp .lss 3 (.tmp 127) (.const (.int .i64 0)) 3,4,"law.go:125",#[⟨13,.data⟩,⟨11,.guard⟩],some (11,false)⟩) (d:=128) (v:=.bool false) hF hS rfl rfl (by decide) (by kernel_rfl) (by kernel_rfl) (by kernel_rfl) (by kernel_rfl) (fun _ _ _ h=>h) (fun a' hA=>hA.wantedB (j:=11) (dj:=125) (b:=false) rfl (by kernel_rfl) (by decide) rfl) (fun a' hA w' hw=>by have e127:=hA.get 127 rfl; have ec:∀ v,a'.eval (.const v)=v:=fun _=>rfl; clear hA; generalize a'.eval=ρ at *; simp [go_sem,ec,e127,t1,tp]; try rfl) ?_
      clear hF
      intro hF
      refine take_fp 15 [16,17,18,19,20,21,22,23,24,25,26,27,28,29,30,31,32,33,34,35,36,37,38,39,40,41,42,43,44,45,46,47,48,49,50,51,52,53,54,55,56] (oi:=⟨some 129,.pick (.tmp 125) (.const (.bool true)) (.tmp 128),4,"law.go:125",#[⟨11,.data⟩,⟨14,.data⟩],none⟩) (d:=129) (v:=.bool false) hF hS rfl rfl (by decide) (by kernel_rfl) (by kernel_rfl) (by kernel_rfl) (by kernel_rfl) (fun _ _ _ h=>h) (fun a' hA=>wanted_none rfl) (fun a' hA w' hw=>by have e125:=hA.get 125 rfl; have e128:=hA.get 128 rfl; have ec:∀ v,a'.eval (.const v)=v:=fun _=>rfl; clear hA; generalize a'.eval=ρ at *; simp [go_sem,ec,e125,e128]; try rfl) ?_
      clear hF
      intro hF
      refine take_fp 16 [17,18,19,20,21,22,23,24,25,26,27,28,29,30,31,32,33,34,35,36,37,38,39,40,41,42,43,44,45,46,47,48,49,50,51,52,53,54,55,56] (oi:=⟨some 130,.move (.tmp 129),4,"law.go:125",#[⟨15,.data⟩,⟨11,.chain⟩],none⟩) (d:=130) (v:=.bool false) hF hS rfl rfl (by decide) (by kernel_rfl) (by kernel_rfl) (by kernel_rfl) (by kernel_rfl) (fun _ _ _ h=>h) (fun a' hA=>wanted_none rfl) (run_move_fs rfl rfl) ?_
      clear hF
      intro hF
      refine take_fp 17 [18,21,22,23,24,25,26,27,28,29,30,31,32,33,34,35,36,37,38,39,40,41,42,43,44,45,46,47,48,49,50,51,52,53,54,55,56] (oi:=⟨some 131,.fieldAddr 41 (.tmp 17) 2,0,"law.go:125",#[⟨16,.guard⟩],some (16,false)⟩) (d:=131) (v:=.pointer (some ⟨wr.heap.size,2,none⟩)) hF hS rfl rfl (by decide) (by kernel_rfl) (by kernel_rfl) (by kernel_rfl) (by kernel_rfl) (fun _ _ _ h=>h) (fun a' hA=>hA.wantedB (j:=16) (dj:=130) (b:=false) rfl (by kernel_rfl) (by decide) rfl) (fun a' hA w' hw=>by have e17:=hA.get 17 rfl; have ec:∀ v,a'.eval (.const v)=v:=fun _=>rfl; clear hA; generalize a'.eval=ρ at *; simp [go_sem,ec,e17]; try rfl) ?_
      clear hF
      intro hF
      refine take_fp 18 [21,22,23,24,25,26,27,28,29,30,31,32,33,34,35,36,37,38,39,40,41,42,43,44,45,46,47,48,49,50,51,52,53,54,55,56] (oi:=⟨some 132,.load 3 (.tmp 131),3,"law.go:125",#[⟨17,.data⟩,⟨16,.guard⟩],some (16,false)⟩) (d:=132) (v:=.int .i64 (e:Int)) hF hS rfl rfl (by decide) (by kernel_rfl) (by kernel_rfl) (by kernel_rfl) (by kernel_rfl) (fun _ _ _ h=>h) (fun a' hA=>hA.wantedB (j:=16) (dj:=130) (b:=false) rfl (by kernel_rfl) (by decide) rfl) (fun a' hA w' hw=>by have e131:=hA.get 131 rfl; have ec:∀ v,a'.eval (.const v)=v:=fun _=>rfl; have q0:=HC2.out _ hw; clear hA; generalize a'.eval=ρ at *; simp [go_sem,ec,e131,q0]; try rfl) ?_
      clear hF
      intro hF
      refine take_fp 19 [20,21,22,23,24,25,26,27,28,29,30,31,32,33,34,35,36,37,38,39,40,41,42,43,44,45,46,47,48,49,50,51,52,53,54,55,56] (oi:=⟨some 133,.fieldAddr 41 (.tmp 17) 1,0,"law.go:125",#[⟨16,.guard⟩],some (16,false)⟩) (d:=133) (v:=.pointer (some ⟨wr.heap.size,1,none⟩)) hF hS rfl rfl (by decide) (by kernel_rfl) (by kernel_rfl) (by kernel_rfl) (by kernel_rfl) (fun _ _ _ h=>h) (fun a' hA=>hA.wantedB (j:=16) (dj:=130) (b:=false) rfl (by kernel_rfl) (by decide) rfl) (fun a' hA w' hw=>by have e17:=hA.get 17 rfl; have ec:∀ v,a'.eval (.const v)=v:=fun _=>rfl; clear hA; generalize a'.eval=ρ at *; simp [go_sem,ec,e17]; try rfl) ?_
      clear hF
      intro hF
      refine take_fp 20 [21,22,23,24,25,26,27,28,29,30,31,32,33,34,35,36,37,38,39,40,41,42,43,44,45,46,47,48,49,50,51,52,53,54,55,56] (oi:=⟨some 134,.load 3 (.tmp 133),3,"law.go:125",#[⟨19,.data⟩,⟨16,.guard⟩],some (16,false)⟩) (d:=134) (v:=.int .i64 (a:Int)) hF hS rfl rfl (by decide) (by kernel_rfl) (by kernel_rfl) (by kernel_rfl) (by kernel_rfl) (fun _ _ _ h=>h) (fun a' hA=>hA.wantedB (j:=16) (dj:=130) (b:=false) rfl (by kernel_rfl) (by decide) rfl) (fun a' hA w' hw=>by have e133:=hA.get 133 rfl; have ec:∀ v,a'.eval (.const v)=v:=fun _=>rfl; have q0:=HC1.out _ hw; clear hA; generalize a'.eval=ρ at *; simp [go_sem,ec,e133,q0]; try rfl) ?_
      clear hF
      intro hF
      refine take_fp 21 [22,23,24,25,26,27,28,29,30,31,32,33,34,35,36,37,38,39,40,41,42,43,44,45,46,47,48,49,50,51,52,53,54,55,56] (oi:=⟨some 135,.binOp .leq 3 (.tmp 132) (.tmp 134) 3,4,"law.go:125",#[⟨18,.data⟩,⟨20,.data⟩,⟨16,.guard⟩],some (16,false)⟩) (d:=135) (v:=.bool false) hF hS rfl rfl (by decide) (by kernel_rfl) (by kernel_rfl) (by kernel_rfl) (by kernel_rfl) (fun _ _ _ h=>h) (fun a' hA=>hA.wantedB (j:=16) (dj:=130) (b:=false) rfl (by kernel_rfl) (by decide) rfl) (fun a' hA w' hw=>by have e132:=hA.get 132 rfl; have e134:=hA.get 134 rfl; have ec:∀ v,a'.eval (.const v)=v:=fun _=>rfl; clear hA; generalize a'.eval=ρ at *; simp [go_sem,ec,e132,e134,t2,t2n,t2m]; try rfl) ?_
      clear hF
      intro hF
      refine take_fp 22 [23,24,25,26,27,28,29,30,31,32,33,34,35,36,37,38,39,40,41,42,43,44,45,46,47,48,49,50,51,52,53,54,55,56] (oi:=⟨some 136,.pick (.tmp 130) (.const (.bool true)) (.tmp 135),4,"law.go:125",#[⟨16,.data⟩,⟨21,.data⟩],none⟩) (d:=136) (v:=.bool false) hF hS rfl rfl (by decide) (by kernel_rfl) (by kernel_rfl) (by kernel_rfl) (by kernel_rfl) (fun _ _ _ h=>h) (fun a' hA=>wanted_none rfl) (fun a' hA w' hw=>by have e130:=hA.get 130 rfl; have e135:=hA.get 135 rfl; have ec:∀ v,a'.eval (.const v)=v:=fun _=>rfl; clear hA; generalize a'.eval=ρ at *; simp [go_sem,ec,e130,e135]; try rfl) ?_
      clear hF
      intro hF
      refine take_fp 23 [24,25,26,27,28,29,30,31,32,33,34,35,36,37,38,39,40,41,42,43,44,45,46,47,48,49,50,51,52,53,54,55,56] (oi:=⟨some 137,.move (.tmp 136),4,"law.go:125",#[⟨22,.data⟩,⟨16,.chain⟩],none⟩) (d:=137) (v:=.bool false) hF hS rfl rfl (by decide) (by kernel_rfl) (by kernel_rfl) (by kernel_rfl) (by kernel_rfl) (fun _ _ _ h=>h) (fun a' hA=>wanted_none rfl) (run_move_fs rfl rfl) ?_
      clear hF
      intro hF
      refine take_fp 24 [25,28,29,30,31,32,33,34,35,36,37,38,39,40,41,42,43,44,45,46,47,48,49,50,51,52,53,54,55,56] (oi:=⟨some 138,.fieldAddr 41 (.tmp 17) 2,0,"law.go:125",#[⟨23,.guard⟩],some (23,false)⟩) (d:=138) (v:=.pointer (some ⟨wr.heap.size,2,none⟩)) hF hS rfl rfl (by decide) (by kernel_rfl) (by kernel_rfl) (by kernel_rfl) (by kernel_rfl) (fun _ _ _ h=>h) (fun a' hA=>hA.wantedB (j:=23) (dj:=137) (b:=false) rfl (by kernel_rfl) (by decide) rfl) (fun a' hA w' hw=>by have e17:=hA.get 17 rfl; have ec:∀ v,a'.eval (.const v)=v:=fun _=>rfl; clear hA; generalize a'.eval=ρ at *; simp [go_sem,ec,e17]; try rfl) ?_
      clear hF
      intro hF
      refine take_fp 25 [28,29,30,31,32,33,34,35,36,37,38,39,40,41,42,43,44,45,46,47,48,49,50,51,52,53,54,55,56] (oi:=⟨some 139,.load 3 (.tmp 138),3,"law.go:125",#[⟨24,.data⟩,⟨23,.guard⟩],some (23,false)⟩) (d:=139) (v:=.int .i64 (e:Int)) hF hS rfl rfl (by decide) (by kernel_rfl) (by kernel_rfl) (by kernel_rfl) (by kernel_rfl) (fun _ _ _ h=>h) (fun a' hA=>hA.wantedB (j:=23) (dj:=137) (b:=false) rfl (by kernel_rfl) (by decide) rfl) (fun a' hA w' hw=>by have e138:=hA.get 138 rfl; have ec:∀ v,a'.eval (.const v)=v:=fun _=>rfl; have q0:=HC2.out _ hw; clear hA; generalize a'.eval=ρ at *; simp [go_sem,ec,e138,q0]; try rfl) ?_
      clear hF
      intro hF
      refine take_fp 26 [27,28,29,30,31,32,33,34,35,36,37,38,39,40,41,42,43,44,45,46,47,48,49,50,51,52,53,54,55,56] (oi:=⟨some 140,.move (.tmp 0),9,"law.go:125",#[⟨23,.guard⟩],some (23,false)⟩) (d:=140) (v:=.string s) hF hS rfl rfl (by decide) (by kernel_rfl) (by kernel_rfl) (by kernel_rfl) (by kernel_rfl) (fun _ _ _ h=>h) (fun a' hA=>hA.wantedB (j:=23) (dj:=137) (b:=false) rfl (by kernel_rfl) (by decide) rfl) (run_move_fs rfl rfl) ?_
      clear hF
      intro hF
      refine take_fp 27 [28,29,30,31,32,33,34,35,36,37,38,39,40,41,42,43,44,45,46,47,48,49,50,51,52,53,54,55,56] (oi:=⟨some 141,.call ⟨.builtin .len,#[.tmp 140],#[9]⟩,3,"law.go:125",#[⟨26,.data⟩,⟨23,.guard⟩],some (23,false)⟩) (d:=141) (v:=.int .i64 (s.size:Int)) hF hS rfl rfl (by decide) (by kernel_rfl) (by kernel_rfl) (by kernel_rfl) (by kernel_rfl) (fun _ _ _ h=>h) (fun a' hA=>hA.wantedB (j:=23) (dj:=137) (b:=false) rfl (by kernel_rfl) (by decide) rfl) (fun a' hA w' hw=>by have e140:=hA.get 140 rfl; have ec:∀ v,a'.eval (.const v)=v:=fun _=>rfl; clear hA; generalize a'.eval=ρ at *; simp [go_sem,ec,e140]; try rfl) ?_
      clear hF
      intro hF
      refine take_fp 28 [29,30,31,32,33,34,35,36,37,38,39,40,41,42,43,44,45,46,47,48,49,50,51,52,53,54,55,56] (oi:=⟨some 142,.binOp .gtr 3 (.tmp 139) (.tmp 141) 3,4,"law.go:125",#[⟨25,.data⟩,⟨27,.data⟩,⟨23,.guard⟩],some (23,false)⟩) (d:=142) (v:=.bool false) hF hS rfl rfl (by decide) (by kernel_rfl) (by kernel_rfl) (by kernel_rfl) (by kernel_rfl) (fun _ _ _ h=>h) (fun a' hA=>hA.wantedB (j:=23) (dj:=137) (b:=false) rfl (by kernel_rfl) (by decide) rfl) (fun a' hA w' hw=>by have e139:=hA.get 139 rfl; have e141:=hA.get 141 rfl; have ec:∀ v,a'.eval (.const v)=v:=fun _=>rfl; clear hA; generalize a'.eval=ρ at *; simp [go_sem,ec,e139,e141,t3,t3n,hes]; try rfl) ?_
      clear hF
      intro hF
      refine take_fp 29 [30,31,32,33,34,35,36,37,38,39,40,41,42,43,44,45,46,47,48,49,50,51,52,53,54,55,56] (oi:=⟨some 143,.pick (.tmp 137) (.const (.bool true)) (.tmp 142),4,"law.go:125",#[⟨23,.data⟩,⟨28,.data⟩],none⟩) (d:=143) (v:=.bool false) hF hS rfl rfl (by decide) (by kernel_rfl) (by kernel_rfl) (by kernel_rfl) (by kernel_rfl) (fun _ _ _ h=>h) (fun a' hA=>wanted_none rfl) (fun a' hA w' hw=>by have e137:=hA.get 137 rfl; have e142:=hA.get 142 rfl; have ec:∀ v,a'.eval (.const v)=v:=fun _=>rfl; clear hA; generalize a'.eval=ρ at *; simp [go_sem,ec,e137,e142]; try rfl) ?_
      clear hF
      intro hF
      refine take_fp 30 [31,32,33,34,35,36,37,38,39,40,41,42,43,44,45,46,47,48,49,50,51,52,53,54,55,56] (oi:=⟨some 144,.move (.tmp 143),4,"law.go:125",#[⟨29,.data⟩,⟨23,.chain⟩],none⟩) (d:=144) (v:=.bool false) hF hS rfl rfl (by decide) (by kernel_rfl) (by kernel_rfl) (by kernel_rfl) (by kernel_rfl) (fun _ _ _ h=>h) (fun a' hA=>wanted_none rfl) (run_move_fs rfl rfl) ?_
      clear hF
      intro hF
      refine take_fp 31 [32,33,34,35,36,37,38,39,40,41,42,43,44,45,46,47,48,49,50,51,52,53,54,55,56] (oi:=⟨some 145,.move (.tmp 16),3,"law.go:125",#[⟨30,.guard⟩],some (30,false)⟩) (d:=145) (v:=.int .i64 (i:Int)) hF hS rfl rfl (by decide) (by kernel_rfl) (by kernel_rfl) (by kernel_rfl) (by kernel_rfl) (fun _ _ _ h=>h) (fun a' hA=>hA.wantedB (j:=30) (dj:=144) (b:=false) rfl (by kernel_rfl) (by decide) rfl) (run_move_fs rfl rfl) ?_
      clear hF
      intro hF
      refine take_fp 32 [33,34,35,36,37,38,39,40,41,42,43,44,45,46,47,48,49,50,51,52,53,54,55,56] (oi:=⟨some 146,.binOp .gtr 3 (.tmp 145) (.const (.int .i64 0)) 3,4,"law.go:125",#[⟨31,.data⟩,⟨30,.guard⟩],some (30,false)⟩) (d:=146) (v:=.bool false) hF hS rfl rfl (by decide) (by kernel_rfl) (by kernel_rfl) (by kernel_rfl) (by kernel_rfl) (fun _ _ _ h=>h) (fun a' hA=>hA.wantedB (j:=30) (dj:=144) (b:=false) rfl (by kernel_rfl) (by decide) rfl) (fun a' hA w' hw=>by have e145:=hA.get 145 rfl; have ec:∀ v,a'.eval (.const v)=v:=fun _=>rfl; clear hA; generalize a'.eval=ρ at *; simp [go_sem,ec,e145,ti,tin]; try rfl) ?_
      clear hF
      intro hF
      refine take_fp 33 [34,35,36,37,38,39,40,41,42,43,44,45,46,47,48,49,50,51,52,53,54,55,56] (oi:=⟨some 147,.move (.tmp 146),4,"law.go:125",#[⟨32,.data⟩,⟨30,.chain⟩,⟨30,.guard⟩],some (30,false)⟩) (d:=147) (v:=.bool false) hF hS rfl rfl (by decide) (by kernel_rfl) (by kernel_rfl) (by kernel_rfl) (by kernel_rfl) (fun _ _ _ h=>h) (fun a' hA=>hA.wantedB (j:=30) (dj:=144) (b:=false) rfl (by kernel_rfl) (by decide) rfl) (run_move_fs rfl rfl) ?_
      clear hF
      intro hF
      refine skip_fp 34 [35,42,43,44,45,46,47,48,49,50,51,52,53,54,55,56] (oi:=⟨some 148,.fieldAddr 41 (.tmp 17) 1,0,"law.go:125",#[⟨33,.guard⟩],some (33,true)⟩) (d:=148) hF hS rfl rfl (by decide) (by kernel_rfl) (by kernel_rfl) (by kernel_rfl) (by kernel_rfl) (fun _ _ _ h=>h) (fun a' hA=>hA.unwanted (j:=33) (dj:=147) (b:=true) (v:=.bool false) rfl (by kernel_rfl) (by decide) rfl (by intro h; cases h)) ?_
      clear hF
      intro hF
      refine skip_fp 35 [42,43,44,45,46,47,48,49,50,51,52,53,54,55,56] (oi:=⟨some 149,.load 3 (.tmp 148),3,"law.go:125",#[⟨34,.data⟩,⟨33,.guard⟩],some (33,true)⟩) (d:=149) hF hS rfl rfl (by decide) (by kernel_rfl) (by kernel_rfl) (by kernel_rfl) (by kernel_rfl) (fun _ _ _ h=>h) (fun a' hA=>hA.unwanted (j:=33) (dj:=147) (b:=true) (v:=.bool false) rfl (by kernel_rfl) (by decide) rfl (by intro h; cases h)) ?_
      clear hF
      intro hF
      refine skip_fp 36 [39,40,41,42,43,44,45,46,47,48,49,50,51,52,53,54,55,56] (oi:=⟨some 150,.move (.tmp 8),27,"law.go:125",#[⟨33,.guard⟩],some (33,true)⟩) (d:=150) hF hS rfl rfl (by decide) (by kernel_rfl) (by kernel_rfl) (by kernel_rfl) (by kernel_rfl) (fun _ _ _ h=>h) (fun a' hA=>hA.unwanted (j:=33) (dj:=147) (b:=true) (v:=.bool false) rfl (by kernel_rfl) (by decide) rfl (by intro h; cases h)) ?_
      clear hF
      intro hF
      refine skip_fp 37 [38,39,40,41,42,43,44,45,46,47,48,49,50,51,52,53,54,55,56] (oi:=⟨some 151,.move (.tmp 16),3,"law.go:125",#[⟨33,.guard⟩],some (33,true)⟩) (d:=151) hF hS rfl rfl (by decide) (by kernel_rfl) (by kernel_rfl) (by kernel_rfl) (by kernel_rfl) (fun _ _ _ h=>h) (fun a' hA=>hA.unwanted (j:=33) (dj:=147) (b:=true) (v:=.bool false) rfl (by kernel_rfl) (by decide) rfl (by intro h; cases h)) ?_
      clear hF
      intro hF
      refine skip_fp 38 [39,40,41,42,43,44,45,46,47,48,49,50,51,52,53,54,55,56] (oi:=⟨some 152,.binOp .sub 3 (.tmp 151) (.const (.int .i64 1)) 3,3,"law.go:125",#[⟨37,.data⟩,⟨33,.guard⟩],some (33,true)⟩) (d:=152) hF hS rfl rfl (by decide) (by kernel_rfl) (by kernel_rfl) (by kernel_rfl) (by kernel_rfl) (fun _ _ _ h=>h) (fun a' hA=>hA.unwanted (j:=33) (dj:=147) (b:=true) (v:=.bool false) rfl (by kernel_rfl) (by decide) rfl (by intro h; cases h)) ?_
      clear hF
      intro hF
      refine skip_fp 39 [40,41,42,43,44,45,46,47,48,49,50,51,52,53,54,55,56] (oi:=⟨some 153,.indexAddr 27 (.tmp 150) (.tmp 152),0,"law.go:125",#[⟨36,.data⟩,⟨38,.data⟩,⟨33,.guard⟩],some (33,true)⟩) (d:=153) hF hS rfl rfl (by decide) (by kernel_rfl) (by kernel_rfl) (by kernel_rfl) (by kernel_rfl) (fun _ _ _ h=>h) (fun a' hA=>hA.unwanted (j:=33) (dj:=147) (b:=true) (v:=.bool false) rfl (by kernel_rfl) (by decide) rfl (by intro h; cases h)) ?_
      clear hF
      intro hF
      refine skip_fp 40 [41,42,43,44,45,46,47,48,49,50,51,52,53,54,55,56] (oi:=⟨some 154,.fieldAddr 41 (.tmp 153) 2,0,"law.go:125",#[⟨39,.data⟩,⟨33,.guard⟩],some (33,true)⟩) (d:=154) hF hS rfl rfl (by decide) (by kernel_rfl) (by kernel_rfl) (by kernel_rfl) (by kernel_rfl) (fun _ _ _ h=>h) (fun a' hA=>hA.unwanted (j:=33) (dj:=147) (b:=true) (v:=.bool false) rfl (by kernel_rfl) (by decide) rfl (by intro h; cases h)) ?_
      clear hF
      intro hF
      refine skip_fp 41 [42,43,44,45,46,47,48,49,50,51,52,53,54,55,56] (oi:=⟨some 155,.load 3 (.tmp 154),3,"law.go:125",#[⟨40,.data⟩,⟨33,.guard⟩],some (33,true)⟩) (d:=155) hF hS rfl rfl (by decide) (by kernel_rfl) (by kernel_rfl) (by kernel_rfl) (by kernel_rfl) (fun _ _ _ h=>h) (fun a' hA=>hA.unwanted (j:=33) (dj:=147) (b:=true) (v:=.bool false) rfl (by kernel_rfl) (by decide) rfl (by intro h; cases h)) ?_
      clear hF
      intro hF
      refine skip_fp 42 [43,44,45,46,47,48,49,50,51,52,53,54,55,56] (oi:=⟨some 156,.binOp .lss 3 (.tmp 149) (.tmp 155) 3,4,"law.go:125",#[⟨35,.data⟩,⟨41,.data⟩,⟨33,.guard⟩],some (33,true)⟩) (d:=156) hF hS rfl rfl (by decide) (by kernel_rfl) (by kernel_rfl) (by kernel_rfl) (by kernel_rfl) (fun _ _ _ h=>h) (fun a' hA=>hA.unwanted (j:=33) (dj:=147) (b:=true) (v:=.bool false) rfl (by kernel_rfl) (by decide) rfl (by intro h; cases h)) ?_
      clear hF
      intro hF
      refine take_fp 43 [44,45,46,47,48,49,50,51,52,53,54,55,56] (oi:=⟨some 157,.pick (.tmp 147) (.tmp 156) (.const (.bool false)),4,"law.go:125",#[⟨33,.data⟩,⟨42,.data⟩,⟨30,.guard⟩],some (30,false)⟩) (d:=157) (v:=.bool false) hF hS rfl rfl (by decide) (by kernel_rfl) (by kernel_rfl) (by kernel_rfl) (by kernel_rfl) (fun _ _ _ h=>h) (fun a' hA=>hA.wantedB (j:=30) (dj:=144) (b:=false) rfl (by kernel_rfl) (by decide) rfl) (fun a' hA w' hw=>by have e147:=hA.get 147 rfl; have e156:=hA.get 156 rfl; have ec:∀ v,a'.eval (.const v)=v:=fun _=>rfl; clear hA; generalize a'.eval=ρ at *; simp [go_sem,ec,e147,e156]; try rfl) ?_
      clear hF
      intro hF
      refine take_fp 44 [45,46,47,48,49,50,51,52,53,54,55,56] (oi:=⟨some 158,.pick (.tmp 144) (.const (.bool true)) (.tmp 157),4,"law.go:125",#[⟨30,.data⟩,⟨43,.data⟩],none⟩) (d:=158) (v:=.bool false) hF hS rfl rfl (by decide) (by kernel_rfl) (by kernel_rfl) (by kernel_rfl) (by kernel_rfl) (fun _ _ _ h=>h) (fun a' hA=>wanted_none rfl) (fun a' hA w' hw=>by have e144:=hA.get 144 rfl; have e157:=hA.get 157 rfl; have ec:∀ v,a'.eval (.const v)=v:=fun _=>rfl; clear hA; generalize a'.eval=ρ at *; simp [go_sem,ec,e144,e157]; try rfl) ?_
      clear hF
      intro hF
      refine take_fp 45 [46,47,48,49,50,51,52,53,54,55,56] (oi:=⟨some 159,.move (.tmp 158),4,"law.go:125",#[⟨44,.data⟩,⟨33,.chain⟩],none⟩) (d:=159) (v:=.bool false) hF hS rfl rfl (by decide) (by kernel_rfl) (by kernel_rfl) (by kernel_rfl) (by kernel_rfl) (fun _ _ _ h=>h) (fun a' hA=>wanted_none rfl) (run_move_fs rfl rfl) ?_
      clear hF
      intro hF
      refine take_fp 46 [47,54,55,56] (oi:=⟨some 160,.fieldAddr 41 (.tmp 17) 3,0,"law.go:125",#[⟨45,.guard⟩],some (45,false)⟩) (d:=160) (v:=.pointer (some ⟨wr.heap.size,3,none⟩)) hF hS rfl rfl (by decide) (by kernel_rfl) (by kernel_rfl) (by kernel_rfl) (by kernel_rfl) (fun _ _ _ h=>h) (fun a' hA=>hA.wantedB (j:=45) (dj:=159) (b:=false) rfl (by kernel_rfl) (by decide) rfl) (fun a' hA w' hw=>by have e17:=hA.get 17 rfl; have ec:∀ v,a'.eval (.const v)=v:=fun _=>rfl; clear hA; generalize a'.eval=ρ at *; simp [go_sem,ec,e17]; try rfl) ?_
      clear hF
      intro hF
      refine take_fp 47 [54,55,56] (oi:=⟨some 161,.load 3 (.tmp 160),3,"law.go:125",#[⟨46,.data⟩,⟨45,.guard⟩],some (45,false)⟩) (d:=161) (v:=.int .i64 sp) hF hS rfl rfl (by decide) (by kernel_rfl) (by kernel_rfl) (by kernel_rfl) (by kernel_rfl) (fun _ _ _ h=>h) (fun a' hA=>hA.wantedB (j:=45) (dj:=159) (b:=false) rfl (by kernel_rfl) (by decide) rfl) (fun a' hA w' hw=>by have e160:=hA.get 160 rfl; have ec:∀ v,a'.eval (.const v)=v:=fun _=>rfl; have q0:=HC3.out _ hw; clear hA; generalize a'.eval=ρ at *; simp [go_sem,ec,e160,q0]; try rfl) ?_
      clear hF
      intro hF
      refine take_fp 48 [53,54,55,56] (oi:=⟨some 162,.move (.tmp 0),9,"law.go:125",#[⟨45,.guard⟩],some (45,false)⟩) (d:=162) (v:=.string s) hF hS rfl rfl (by decide) (by kernel_rfl) (by kernel_rfl) (by kernel_rfl) (by kernel_rfl) (fun _ _ _ h=>h) (fun a' hA=>hA.wantedB (j:=45) (dj:=159) (b:=false) rfl (by kernel_rfl) (by decide) rfl) (run_move_fs rfl rfl) ?_
      clear hF
      intro hF
      refine take_fp 49 [50,53,54,55,56] (oi:=⟨some 163,.fieldAddr 41 (.tmp 17) 1,0,"law.go:125",#[⟨45,.guard⟩],some (45,false)⟩) (d:=163) (v:=.pointer (some ⟨wr.heap.size,1,none⟩)) hF hS rfl rfl (by decide) (by kernel_rfl) (by kernel_rfl) (by kernel_rfl) (by kernel_rfl) (fun _ _ _ h=>h) (fun a' hA=>hA.wantedB (j:=45) (dj:=159) (b:=false) rfl (by kernel_rfl) (by decide) rfl) (fun a' hA w' hw=>by have e17:=hA.get 17 rfl; have ec:∀ v,a'.eval (.const v)=v:=fun _=>rfl; clear hA; generalize a'.eval=ρ at *; simp [go_sem,ec,e17]; try rfl) ?_
      clear hF
      intro hF
      refine take_fp 50 [53,54,55,56] (oi:=⟨some 164,.load 3 (.tmp 163),3,"law.go:125",#[⟨49,.data⟩,⟨45,.guard⟩],some (45,false)⟩) (d:=164) (v:=.int .i64 (a:Int)) hF hS rfl rfl (by decide) (by kernel_rfl) (by kernel_rfl) (by kernel_rfl) (by kernel_rfl) (fun _ _ _ h=>h) (fun a' hA=>hA.wantedB (j:=45) (dj:=159) (b:=false) rfl (by kernel_rfl) (by decide) rfl) (fun a' hA w' hw=>by have e163:=hA.get 163 rfl; have ec:∀ v,a'.eval (.const v)=v:=fun _=>rfl; have q0:=HC1.out _ hw; clear hA; generalize a'.eval=ρ at *; simp [go_sem,ec,e163,q0]; try rfl) ?_
      clear hF
      intro hF
      refine take_fp 51 [52,53,54,55,56] (oi:=⟨some 165,.fieldAddr 41 (.tmp 17) 2,0,"law.go:125",#[⟨45,.guard⟩],some (45,false)⟩) (d:=165) (v:=.pointer (some ⟨wr.heap.size,2,none⟩)) hF hS rfl rfl (by decide) (by kernel_rfl) (by kernel_rfl) (by kernel_rfl) (by kernel_rfl) (fun _ _ _ h=>h) (fun a' hA=>hA.wantedB (j:=45) (dj:=159) (b:=false) rfl (by kernel_rfl) (by decide) rfl) (fun a' hA w' hw=>by have e17:=hA.get 17 rfl; have ec:∀ v,a'.eval (.const v)=v:=fun _=>rfl; clear hA; generalize a'.eval=ρ at *; simp [go_sem,ec,e17]; try rfl) ?_
      clear hF
      intro hF
      refine take_fp 52 [53,54,55,56] (oi:=⟨some 166,.load 3 (.tmp 165),3,"law.go:125",#[⟨51,.data⟩,⟨45,.guard⟩],some (45,false)⟩) (d:=166) (v:=.int .i64 (e:Int)) hF hS rfl rfl (by decide) (by kernel_rfl) (by kernel_rfl) (by kernel_rfl) (by kernel_rfl) (fun _ _ _ h=>h) (fun a' hA=>hA.wantedB (j:=45) (dj:=159) (b:=false) rfl (by kernel_rfl) (by decide) rfl) (fun a' hA w' hw=>by have e165:=hA.get 165 rfl; have ec:∀ v,a'.eval (.const v)=v:=fun _=>rfl; have q0:=HC2.out _ hw; clear hA; generalize a'.eval=ρ at *; simp [go_sem,ec,e165,q0]; try rfl) ?_
      clear hF
      intro hF
      refine take_fp 53 [54,55,56] (oi:=⟨some 167,.slice 9 (.tmp 162) (some (.tmp 164)) (some (.tmp 166)) none,9,"law.go:125",#[⟨48,.data⟩,⟨50,.data⟩,⟨52,.data⟩,⟨45,.guard⟩],some (45,false)⟩) (d:=167) (v:=.string (s.extract a e)) hF hS rfl rfl (by decide) (by kernel_rfl) (by kernel_rfl) (by kernel_rfl) (by kernel_rfl) (fun _ _ _ h=>h) (fun a' hA=>hA.wantedB (j:=45) (dj:=159) (b:=false) rfl (by kernel_rfl) (by decide) rfl) (fun a' hA w' hw=>by have e162:=hA.get 162 rfl; have e164:=hA.get 164 rfl; have e166:=hA.get 166 rfl; have ec:∀ v,a'.eval (.const v)=v:=fun _=>rfl; clear hA; generalize a'.eval=ρ at *; simp [go_sem,ec,e162,e164,e166,s0,s1,s2,s3,s4,hae,hes]; try rfl) ?_
      clear hF
      intro hF
      refine call_fp 54 (oi:=⟨some 168,.call ⟨.value (.func 29),#[.tmp 161,.tmp 167],#[3,9]⟩,4,"law.go:125",#[⟨47,.data⟩,⟨53,.data⟩,⟨45,.chain⟩,⟨45,.guard⟩],some (45,false)⟩) (d:=168) (R:=fun e w'=>e=.returned (.bool true)∧Below W6.heap.size W6 w') hF rfl rfl (by decide) (by kernel_rfl) (fun a' hA=>hA.wantedB (j:=45) (dj:=159) (b:=false) rfl (by kernel_rfl) (by decide) rfl) (fun a' hA=>by have e161:=hA.get 161 rfl; have e167:=hA.get 167 rfl; have ef:∀ f,a'.eval (.func f)=.func (.func f) #[] #[]:=fun _=>rfl; have ec:∀ v,a'.eval (.const v)=v:=fun _=>rfl; clear hA; generalize a'.eval=ρ at *; simp [go_sem,ef,ec,e161,e167]) (HMY.out _ hS) (by rintro w' ⟨h,_⟩; cases h) (by rintro ch w' ⟨h,_⟩; cases h) ?_
      rintro v54 w54x ⟨h,hb⟩
      have h:=Ending.returned.inj h
      subst h
      refine ⟨fun _=>hb,?_⟩
      clear hS
      have hS:(fun W:World=>Below W6.heap.size W6 W) w54x:=hb
      clear hb hF
      intro hF
      refine take_fp 55 [56] (oi:=⟨some 169,.unOp .not 4 (.tmp 168),4,"law.go:125",#[⟨54,.data⟩,⟨45,.guard⟩],some (45,false)⟩) (d:=169) (v:=.bool false) hF hS rfl rfl (by decide) (by kernel_rfl) (by kernel_rfl) (by kernel_rfl) (by kernel_rfl) (fun _ _ _ h=>h) (fun a' hA=>hA.wantedB (j:=45) (dj:=159) (b:=false) rfl (by kernel_rfl) (by decide) rfl) (fun a' hA w' hw=>by have e168:=hA.get 168 rfl; have ec:∀ v,a'.eval (.const v)=v:=fun _=>rfl; clear hA; generalize a'.eval=ρ at *; simp [go_sem,ec,e168]; try rfl) ?_
      clear hF
      intro hF
      refine one_fp 56 (oi:=⟨some 170,.pick (.tmp 159) (.const (.bool true)) (.tmp 169),4,"law.go:125",#[⟨45,.data⟩,⟨55,.data⟩],none⟩) (d:=170) (v:=.bool false) hF rfl rfl (by decide) (by kernel_rfl) (by kernel_rfl) (fun a' hA=>wanted_none rfl) (fun a' hA=>by have e159:=hA.get 159 rfl; have e169:=hA.get 169 rfl; have ec:∀ v,a'.eval (.const v)=v:=fun _=>rfl; clear hA; generalize a'.eval=ρ at *; simp [go_sem,ec,e159,e169]; try rfl) ?_
      clear hF
      intro hF
      refine wpTill_done (by kernel_rfl) ?_ _
      subst ha0
      simp only [Act.put,List.setIfInBounds_toArray,List.set_cons_zero,List.set_cons_succ]
      have HBW:=Lib.hid (HB56.out.trans (hS.mono HB56.out.size))
      clear hF hS HC0 HC1 HC2 HC3 HC4 HMY HPV
      go_wp2_with fail
      go_roundw
      case rel=>exact ⟨i+1,by omega,by go_num,HBW⟩
      case measure=>simp [intOf]; omega
     ·obtain ⟨ip,hip⟩:∃ ip,i=ip+1:=⟨i - 1,by omega⟩
      obtain ⟨hc5,hpe⟩:=HPV.out ip hip
      have HC5:=Lib.hid hc5
      generalize (ov ip).end_=ep at *
      have ti:(0:Int) < (i:Int):=by omega
      have tin:0 < i:=by omega
      have tp:¬ (a:Int) < ep:=by omega
      have tsub:IntKind.i64.wrap ((i:Int) - 1)=(ip:Int):=by rw [show (i:Int) - 1=(ip:Int) by omega]; exact IntWalk.i64_in _ (by omega)
      have tsub2:(i:Int) - 1=(ip:Int):=by omega
      have tsub3:IntKind.i64.wrap (ip:Int)=(ip:Int):=IntWalk.i64_in _ (by omega)
      have ri1:(0:Int)≤(ip:Int):=by omega
      have ri2:(ip:Int) < (m:Int):=by omega
      clear hc5 hpe hip
      refine wp_region_till (fun W:World=>Below W6.heap.size W6 W) 56 (by kernel_rfl) ?_
      have hS:(fun W:World=>Below W6.heap.size W6 W) W6.drew:=(Below.refl _ _).drew
      refine start_fp (N:=173) [(0,.string s),(1,.int .i64 fl),(8,.slice (some ⟨oa,0,none⟩) m m),(11,.slice (some ⟨gs,0,none⟩) m m),(16,.int .i64 (i:Int)),(17,.pointer (some ⟨wr.heap.size,0,none⟩))] (Fs.of rfl rfl (by simp [Act.eval])) ?_
      intro a0 ha0 hF
      refine take_fp 0 [2,3,4,5,6,7,8,9,10,11,12,13,14,15,16,17,18,19,20,21,22,23,24,25,26,27,28,29,30,31,32,33,34,35,36,37,38,39,40,41,42,43,44,45,46,47,48,49,50,51,52,53,54,55,56] (oi:=⟨some 114,.move (.tmp 11),23,"law.go:125",#[],none⟩) (d:=114) (v:=.slice (some ⟨gs,0,none⟩) m m) hF hS rfl rfl (by decide) (by kernel_rfl) (by kernel_rfl) (by kernel_rfl) (by kernel_rfl) (fun _ _ _ h=>h) (fun a' hA=>wanted_none rfl) (run_move_fs rfl rfl) ?_
      clear hF
      intro hF
      refine take_fp 1 [2,3,4,5,6,7,8,9,10,11,12,13,14,15,16,17,18,19,20,21,22,23,24,25,26,27,28,29,30,31,32,33,34,35,36,37,38,39,40,41,42,43,44,45,46,47,48,49,50,51,52,53,54,55,56] (oi:=⟨some 115,.move (.tmp 16),3,"law.go:125",#[],none⟩) (d:=115) (v:=.int .i64 (i:Int)) hF hS rfl rfl (by decide) (by kernel_rfl) (by kernel_rfl) (by kernel_rfl) (by kernel_rfl) (fun _ _ _ h=>h) (fun a' hA=>wanted_none rfl) (run_move_fs rfl rfl) ?_
      clear hF
      intro hF
      refine take_fp 2 [3,4,5,6,7,8,9,10,11,12,13,14,15,16,17,18,19,20,21,22,23,24,25,26,27,28,29,30,31,32,33,34,35,36,37,38,39,40,41,42,43,44,45,46,47,48,49,50,51,52,53,54,55,56] (oi:=⟨some 116,.indexAddr 23 (.tmp 114) (.tmp 115),0,"law.go:125",#[⟨0,.data⟩,⟨1,.data⟩],none⟩) (d:=116) (v:=.pointer (some ⟨gs,i,none⟩)) hF hS rfl rfl (by decide) (by kernel_rfl) (by kernel_rfl) (by kernel_rfl) (by kernel_rfl) (fun _ _ _ h=>h) (fun a' hA=>wanted_none rfl) (fun a' hA w' hw=>by have e114:=hA.get 114 rfl; have e115:=hA.get 115 rfl; have ec:∀ v,a'.eval (.const v)=v:=fun _=>rfl; clear hA; generalize a'.eval=ρ at *; simp [go_sem,ec,e114,e115,r1,r2]; try rfl) ?_
      clear hF
      intro hF
      refine take_fp 3 [4,5,6,7,8,9,10,11,12,13,14,15,16,17,18,19,20,21,22,23,24,25,26,27,28,29,30,31,32,33,34,35,36,37,38,39,40,41,42,43,44,45,46,47,48,49,50,51,52,53,54,55,56] (oi:=⟨some 117,.load 3 (.tmp 116),3,"law.go:125",#[⟨2,.data⟩],none⟩) (d:=117) (v:=.int .i64 1) hF hS rfl rfl (by decide) (by kernel_rfl) (by kernel_rfl) (by kernel_rfl) (by kernel_rfl) (fun _ _ _ h=>h) (fun a' hA=>wanted_none rfl) (fun a' hA w' hw=>by have e116:=hA.get 116 rfl; have ec:∀ v,a'.eval (.const v)=v:=fun _=>rfl; have q0:=HC4.out _ hw; clear hA; generalize a'.eval=ρ at *; simp [go_sem,ec,e116,q0]; try rfl) ?_
      clear hF
      intro hF
      refine take_fp 4 [5,6,7,8,9,10,11,12,13,14,15,16,17,18,19,20,21,22,23,24,25,26,27,28,29,30,31,32,33,34,35,36,37,38,39,40,41,42,43,44,45,46,47,48,49,50,51,52,53,54,55,56] (oi:=⟨some 118,.binOp .neq 3 (.tmp 117) (.const (.int .i64 1)) 3,4,"law.go:125",#[⟨3,.data⟩],none⟩) (d:=118) (v:=.bool false) hF hS rfl rfl (by decide) (by kernel_rfl) (by kernel_rfl) (by kernel_rfl) (by kernel_rfl) (fun _ _ _ h=>h) (fun a' hA=>wanted_none rfl) (fun a' hA w' hw=>by have e117:=hA.get 117 rfl; have ec:∀ v,a'.eval (.const v)=v:=fun _=>rfl; clear hA; generalize a'.eval=ρ at *; simp [go_sem,ec,e117]; try rfl) ?_
      clear hF
      intro hF
      refine take_fp 5 [6,7,8,9,10,11,12,13,14,15,16,17,18,19,20,21,22,23,24,25,26,27,28,29,30,31,32,33,34,35,36,37,38,39,40,41,42,43,44,45,46,47,48,49,50,51,52,53,54,55,56] (oi:=⟨some 119,.move (.tmp 118),4,"law.go:125",#[⟨4,.data⟩],none⟩) (d:=119) (v:=.bool false) hF hS rfl rfl (by decide) (by kernel_rfl) (by kernel_rfl) (by kernel_rfl) (by kernel_rfl) (fun _ _ _ h=>h) (fun a' hA=>wanted_none rfl) (run_move_fs rfl rfl) ?_
      clear hF
      intro hF
      refine take_fp 6 [7,9,10,11,12,13,14,15,16,17,18,19,20,21,22,23,24,25,26,27,28,29,30,31,32,33,34,35,36,37,38,39,40,41,42,43,44,45,46,47,48,49,50,51,52,53,54,55,56] (oi:=⟨some 120,.fieldAddr 41 (.tmp 17) 0,0,"law.go:125",#[⟨5,.guard⟩],some (5,false)⟩) (d:=120) (v:=.pointer (some ⟨wr.heap.size,0,none⟩)) hF hS rfl rfl (by decide) (by kernel_rfl) (by kernel_rfl) (by kernel_rfl) (by kernel_rfl) (fun _ _ _ h=>h) (fun a' hA=>hA.wantedB (j:=5) (dj:=119) (b:=false) rfl (by kernel_rfl) (by decide) rfl) (fun a' hA w' hw=>by have e17:=hA.get 17 rfl; have ec:∀ v,a'.eval (.const v)=v:=fun _=>rfl; clear hA; generalize a'.eval=ρ at *; simp [go_sem,ec,e17]; try rfl) ?_
      clear hF
      intro hF
      refine take_fp 7 [9,10,11,12,13,14,15,16,17,18,19,20,21,22,23,24,25,26,27,28,29,30,31,32,33,34,35,36,37,38,39,40,41,42,43,44,45,46,47,48,49,50,51,52,53,54,55,56] (oi:=⟨some 121,.load 3 (.tmp 120),3,"law.go:125",#[⟨6,.data⟩,⟨5,.guard⟩],some (5,false)⟩) (d:=121) (v:=.int .i64 fl) hF hS rfl rfl (by decide) (by kernel_rfl) (by kernel_rfl) (by kernel_rfl) (by kernel_rfl) (fun _ _ _ h=>h) (fun a' hA=>hA.wantedB (j:=5) (dj:=119) (b:=false) rfl (by kernel_rfl) (by decide) rfl) (fun a' hA w' hw=>by have e120:=hA.get 120 rfl; have ec:∀ v,a'.eval (.const v)=v:=fun _=>rfl; have q0:=HC0.out _ hw; clear hA; generalize a'.eval=ρ at *; simp [go_sem,ec,e120,q0]; try rfl) ?_
      clear hF
      intro hF
      refine take_fp 8 [9,10,11,12,13,14,15,16,17,18,19,20,21,22,23,24,25,26,27,28,29,30,31,32,33,34,35,36,37,38,39,40,41,42,43,44,45,46,47,48,49,50,51,52,53,54,55,56] (oi:=⟨some 122,.move (.tmp 1),3,"law.go:125",#[⟨5,.guard⟩],some (5,false)⟩) (d:=122) (v:=.int .i64 fl) hF hS rfl rfl (by decide) (by kernel_rfl) (by kernel_rfl) (by kernel_rfl) (by kernel_rfl) (fun _ _ _ h=>h) (fun a' hA=>hA.wantedB (j:=5) (dj:=119) (b:=false) rfl (by kernel_rfl) (by decide) rfl) (run_move_fs rfl rfl) ?_
      clear hF
      intro hF
      refine take_fp 9 [10,11,12,13,14,15,16,17,18,19,20,21,22,23,24,25,26,27,28,29,30,31,32,33,34,35,36,37,38,39,40,41,42,43,44,45,46,47,48,49,50,51,52,53,54,55,56] (oi:=⟨some 123,.binOp .neq 3 (.tmp 121) (.tmp 122) 3,4,"law.go:125",#[⟨7,.data⟩,⟨8,.data⟩,⟨5,.guard⟩],some (5,false)⟩) (d:=123) (v:=.bool false) hF hS rfl rfl (by decide) (by kernel_rfl) (by kernel_rfl) (by kernel_rfl) (by kernel_rfl) (fun _ _ _ h=>h) (fun a' hA=>hA.wantedB (j:=5) (dj:=119) (b:=false) rfl (by kernel_rfl) (by decide) rfl) (fun a' hA w' hw=>by have e121:=hA.get 121 rfl; have e122:=hA.get 122 rfl; have ec:∀ v,a'.eval (.const v)=v:=fun _=>rfl; clear hA; generalize a'.eval=ρ at *; simp [go_sem,ec,e121,e122]; try rfl) ?_
      clear hF
      intro hF
      refine take_fp 10 [11,12,13,14,15,16,17,18,19,20,21,22,23,24,25,26,27,28,29,30,31,32,33,34,35,36,37,38,39,40,41,42,43,44,45,46,47,48,49,50,51,52,53,54,55,56] (oi:=⟨some 124,.pick (.tmp 119) (.const (.bool true)) (.tmp 123),4,"law.go:125",#[⟨5,.data⟩,⟨9,.data⟩],none⟩) (d:=124) (v:=.bool false) hF hS rfl rfl (by decide) (by kernel_rfl) (by kernel_rfl) (by kernel_rfl) (by kernel_rfl) (fun _ _ _ h=>h) (fun a' hA=>wanted_none rfl) (fun a' hA w' hw=>by have e119:=hA.get 119 rfl; have e123:=hA.get 123 rfl; have ec:∀ v,a'.eval (.const v)=v:=fun _=>rfl; clear hA; generalize a'.eval=ρ at *; simp [go_sem,ec,e119,e123]; try rfl) ?_
      clear hF
      intro hF
      refine take_fp 11 [12,13,14,15,16,17,18,19,20,21,22,23,24,25,26,27,28,29,30,31,32,33,34,35,36,37,38,39,40,41,42,43,44,45,46,47,48,49,50,51,52,53,54,55,56] (oi:=⟨some 125,.move (.tmp 124),4,"law.go:125",#[⟨10,.data⟩,⟨5,.chain⟩],none⟩) (d:=125) (v:=.bool false) hF hS rfl rfl (by decide) (by kernel_rfl) (by kernel_rfl) (by kernel_rfl) (by kernel_rfl) (fun _ _ _ h=>h) (fun a' hA=>wanted_none rfl) (run_move_fs rfl rfl) ?_
      clear hF
      intro hF
      refine take_fp 12 [13,14,15,16,17,18,19,20,21,22,23,24,25,26,27,28,29,30,31,32,33,34,35,36,37,38,39,40,41,42,43,44,45,46,47,48,49,50,51,52,53,54,55,56] (oi:=⟨some 126,.fieldAddr 41 (.tmp 17) 1,0,"law.go:125",#[⟨11,.guard⟩],some (11,false)⟩) (d:=126) (v:=.pointer (some ⟨wr.heap.size,1,none⟩)) hF hS rfl rfl (by decide) (by kernel_rfl) (by kernel_rfl) (by kernel_rfl) (by kernel_rfl) (fun _ _ _ h=>h) (fun a' hA=>hA.wantedB (j:=11) (dj:=125) (b:=false) rfl (by kernel_rfl) (by decide) rfl) (fun a' hA w' hw=>by have e17:=hA.get 17 rfl; have ec:∀ v,a'.eval (.const v)=v:=fun _=>rfl; clear hA; generalize a'.eval=ρ at *; simp [go_sem,ec,e17]; try rfl) ?_
      clear hF
      intro hF
      refine take_fp 13 [14,15,16,17,18,19,20,21,22,23,24,25,26,27,28,29,30,31,32,33,34,35,36,37,38,39,40,41,42,43,44,45,46,47,48,49,50,51,52,53,54,55,56] (oi:=⟨some 127,.load 3 (.tmp 126),3,"law.go:125",#[⟨12,.data⟩,⟨11,.guard⟩],some (11,false)⟩) (d:=127) (v:=.int .i64 (a:Int)) hF hS rfl rfl (by decide) (by kernel_rfl) (by kernel_rfl) (by kernel_rfl) (by kernel_rfl) (fun _ _ _ h=>h) (fun a' hA=>hA.wantedB (j:=11) (dj:=125) (b:=false) rfl (by kernel_rfl) (by decide) rfl) (fun a' hA w' hw=>by have e126:=hA.get 126 rfl; have ec:∀ v,a'.eval (.const v)=v:=fun _=>rfl; have q0:=HC1.out _ hw; clear hA; generalize a'.eval=ρ at *; simp [go_sem,ec,e126,q0]; try rfl) ?_
      clear hF
      intro hF
      refine take_fp 14 [15,16,17,18,19,20,21,22,23,24,25,26,27,28,29,30,31,32,33,34,35,36,37,38,39,40,41,42,43,44,45,46,47,48,49,50,51,52,53,54,55,56] (oi:=⟨some 128,.binOp .lss 3 (.tmp 127) (.const (.int .i64 0)) 3,4,"law.go:125",#[⟨13,.data⟩,⟨11,.guard⟩],some (11,false)⟩) (d:=128) (v:=.bool false) hF hS rfl rfl (by decide) (by kernel_rfl) (by kernel_rfl) (by kernel_rfl) (by kernel_rfl) (fun _ _ _ h=>h) (fun a' hA=>hA.wantedB (j:=11) (dj:=125) (b:=false) rfl (by kernel_rfl) (by decide) rfl) (fun a' hA w' hw=>by have e127:=hA.get 127 rfl; have ec:∀ v,a'.eval (.const v)=v:=fun _=>rfl; clear hA; generalize a'.eval=ρ at *; simp [go_sem,ec,e127,t1,tp]; try rfl) ?_
      clear hF
      intro hF
      refine take_fp 15 [16,17,18,19,20,21,22,23,24,25,26,27,28,29,30,31,32,33,34,35,36,37,38,39,40,41,42,43,44,45,46,47,48,49,50,51,52,53,54,55,56] (oi:=⟨some 129,.pick (.tmp 125) (.const (.bool true)) (.tmp 128),4,"law.go:125",#[⟨11,.data⟩,⟨14,.data⟩],none⟩) (d:=129) (v:=.bool false) hF hS rfl rfl (by decide) (by kernel_rfl) (by kernel_rfl) (by kernel_rfl) (by kernel_rfl) (fun _ _ _ h=>h) (fun a' hA=>wanted_none rfl) (fun a' hA w' hw=>by have e125:=hA.get 125 rfl; have e128:=hA.get 128 rfl; have ec:∀ v,a'.eval (.const v)=v:=fun _=>rfl; clear hA; generalize a'.eval=ρ at *; simp [go_sem,ec,e125,e128]; try rfl) ?_
      clear hF
      intro hF
      refine take_fp 16 [17,18,19,20,21,22,23,24,25,26,27,28,29,30,31,32,33,34,35,36,37,38,39,40,41,42,43,44,45,46,47,48,49,50,51,52,53,54,55,56] (oi:=⟨some 130,.move (.tmp 129),4,"law.go:125",#[⟨15,.data⟩,⟨11,.chain⟩],none⟩) (d:=130) (v:=.bool false) hF hS rfl rfl (by decide) (by kernel_rfl) (by kernel_rfl) (by kernel_rfl) (by kernel_rfl) (fun _ _ _ h=>h) (fun a' hA=>wanted_none rfl) (run_move_fs rfl rfl) ?_
      clear hF
      intro hF
      refine take_fp 17 [18,21,22,23,24,25,26,27,28,29,30,31,32,33,34,35,36,37,38,39,40,41,42,43,44,45,46,47,48,49,50,51,52,53,54,55,56] (oi:=⟨some 131,.fieldAddr 41 (.tmp 17) 2,0,"law.go:125",#[⟨16,.guard⟩],some (16,false)⟩) (d:=131) (v:=.pointer (some ⟨wr.heap.size,2,none⟩)) hF hS rfl rfl (by decide) (by kernel_rfl) (by kernel_rfl) (by kernel_rfl) (by kernel_rfl) (fun _ _ _ h=>h) (fun a' hA=>hA.wantedB (j:=16) (dj:=130) (b:=false) rfl (by kernel_rfl) (by decide) rfl) (fun a' hA w' hw=>by have e17:=hA.get 17 rfl; have ec:∀ v,a'.eval (.const v)=v:=fun _=>rfl; clear hA; generalize a'.eval=ρ at *; simp [go_sem,ec,e17]; try rfl) ?_
      clear hF
      intro hF
      refine take_fp 18 [21,22,23,24,25,26,27,28,29,30,31,32,33,34,35,36,37,38,39,40,41,42,43,44,45,46,47,48,49,50,51,52,53,54,55,56] (oi:=⟨some 132,.load 3 (.tmp 131),3,"law.go:125",#[⟨17,.data⟩,⟨16,.guard⟩],some (16,false)⟩) (d:=132) (v:=.int .i64 (e:Int)) hF hS rfl rfl (by decide) (by kernel_rfl) (by kernel_rfl) (by kernel_rfl) (by kernel_rfl) (fun _ _ _ h=>h) (fun a' hA=>hA.wantedB (j:=16) (dj:=130) (b:=false) rfl (by kernel_rfl) (by decide) rfl) (fun a' hA w' hw=>by have e131:=hA.get 131 rfl; have ec:∀ v,a'.eval (.const v)=v:=fun _=>rfl; have q0:=HC2.out _ hw; clear hA; generalize a'.eval=ρ at *; simp [go_sem,ec,e131,q0]; try rfl) ?_
      clear hF
      intro hF
      refine take_fp 19 [20,21,22,23,24,25,26,27,28,29,30,31,32,33,34,35,36,37,38,39,40,41,42,43,44,45,46,47,48,49,50,51,52,53,54,55,56] (oi:=⟨some 133,.fieldAddr 41 (.tmp 17) 1,0,"law.go:125",#[⟨16,.guard⟩],some (16,false)⟩) (d:=133) (v:=.pointer (some ⟨wr.heap.size,1,none⟩)) hF hS rfl rfl (by decide) (by kernel_rfl) (by kernel_rfl) (by kernel_rfl) (by kernel_rfl) (fun _ _ _ h=>h) (fun a' hA=>hA.wantedB (j:=16) (dj:=130) (b:=false) rfl (by kernel_rfl) (by decide) rfl) (fun a' hA w' hw=>by have e17:=hA.get 17 rfl; have ec:∀ v,a'.eval (.const v)=v:=fun _=>rfl; clear hA; generalize a'.eval=ρ at *; simp [go_sem,ec,e17]; try rfl) ?_
      clear hF
      intro hF
      refine take_fp 20 [21,22,23,24,25,26,27,28,29,30,31,32,33,34,35,36,37,38,39,40,41,42,43,44,45,46,47,48,49,50,51,52,53,54,55,56] (oi:=⟨some 134,.load 3 (.tmp 133),3,"law.go:125",#[⟨19,.data⟩,⟨16,.guard⟩],some (16,false)⟩) (d:=134) (v:=.int .i64 (a:Int)) hF hS rfl rfl (by decide) (by kernel_rfl) (by kernel_rfl) (by kernel_rfl) (by kernel_rfl) (fun _ _ _ h=>h) (fun a' hA=>hA.wantedB (j:=16) (dj:=130) (b:=false) rfl (by kernel_rfl) (by decide) rfl) (fun a' hA w' hw=>by have e133:=hA.get 133 rfl; have ec:∀ v,a'.eval (.const v)=v:=fun _=>rfl; have q0:=HC1.out _ hw; clear hA; generalize a'.eval=ρ at *; simp [go_sem,ec,e133,q0]; try rfl) ?_
      clear hF
      intro hF
      refine take_fp 21 [22,23,24,25,26,27,28,29,30,31,32,33,34,35,36,37,38,39,40,41,42,43,44,45,46,47,48,49,50,51,52,53,54,55,56] (oi:=⟨some 135,.binOp .leq 3 (.tmp 132) (.tmp 134) 3,4,"law.go:125",#[⟨18,.data⟩,⟨20,.data⟩,⟨16,.guard⟩],some (16,false)⟩) (d:=135) (v:=.bool false) hF hS rfl rfl (by decide) (by kernel_rfl) (by kernel_rfl) (by kernel_rfl) (by kernel_rfl) (fun _ _ _ h=>h) (fun a' hA=>hA.wantedB (j:=16) (dj:=130) (b:=false) rfl (by kernel_rfl) (by decide) rfl) (fun a' hA w' hw=>by have e132:=hA.get 132 rfl; have e134:=hA.get 134 rfl; have ec:∀ v,a'.eval (.const v)=v:=fun _=>rfl; clear hA; generalize a'.eval=ρ at *; simp [go_sem,ec,e132,e134,t2,t2n,t2m]; try rfl) ?_
      clear hF
      intro hF
      refine take_fp 22 [23,24,25,26,27,28,29,30,31,32,33,34,35,36,37,38,39,40,41,42,43,44,45,46,47,48,49,50,51,52,53,54,55,56] (oi:=⟨some 136,.pick (.tmp 130) (.const (.bool true)) (.tmp 135),4,"law.go:125",#[⟨16,.data⟩,⟨21,.data⟩],none⟩) (d:=136) (v:=.bool false) hF hS rfl rfl (by decide) (by kernel_rfl) (by kernel_rfl) (by kernel_rfl) (by kernel_rfl) (fun _ _ _ h=>h) (fun a' hA=>wanted_none rfl) (fun a' hA w' hw=>by have e130:=hA.get 130 rfl; have e135:=hA.get 135 rfl; have ec:∀ v,a'.eval (.const v)=v:=fun _=>rfl; clear hA; generalize a'.eval=ρ at *; simp [go_sem,ec,e130,e135]; try rfl) ?_
      clear hF
      intro hF
      refine take_fp 23 [24,25,26,27,28,29,30,31,32,33,34,35,36,37,38,39,40,41,42,43,44,45,46,47,48,49,50,51,52,53,54,55,56] (oi:=⟨some 137,.move (.tmp 136),4,"law.go:125",#[⟨22,.data⟩,⟨16,.chain⟩],none⟩) (d:=137) (v:=.bool false) hF hS rfl rfl (by decide) (by kernel_rfl) (by kernel_rfl) (by kernel_rfl) (by kernel_rfl) (fun _ _ _ h=>h) (fun a' hA=>wanted_none rfl) (run_move_fs rfl rfl) ?_
      clear hF
      intro hF
      refine take_fp 24 [25,28,29,30,31,32,33,34,35,36,37,38,39,40,41,42,43,44,45,46,47,48,49,50,51,52,53,54,55,56] (oi:=⟨some 138,.fieldAddr 41 (.tmp 17) 2,0,"law.go:125",#[⟨23,.guard⟩],some (23,false)⟩) (d:=138) (v:=.pointer (some ⟨wr.heap.size,2,none⟩)) hF hS rfl rfl (by decide) (by kernel_rfl) (by kernel_rfl) (by kernel_rfl) (by kernel_rfl) (fun _ _ _ h=>h) (fun a' hA=>hA.wantedB (j:=23) (dj:=137) (b:=false) rfl (by kernel_rfl) (by decide) rfl) (fun a' hA w' hw=>by have e17:=hA.get 17 rfl; have ec:∀ v,a'.eval (.const v)=v:=fun _=>rfl; clear hA; generalize a'.eval=ρ at *; simp [go_sem,ec,e17]; try rfl) ?_
      clear hF
      intro hF
      refine take_fp 25 [28,29,30,31,32,33,34,35,36,37,38,39,40,41,42,43,44,45,46,47,48,49,50,51,52,53,54,55,56] (oi:=⟨some 139,.load 3 (.tmp 138),3,"law.go:125",#[⟨24,.data⟩,⟨23,.guard⟩],some (23,false)⟩) (d:=139) (v:=.int .i64 (e:Int)) hF hS rfl rfl (by decide) (by kernel_rfl) (by kernel_rfl) (by kernel_rfl) (by kernel_rfl) (fun _ _ _ h=>h) (fun a' hA=>hA.wantedB (j:=23) (dj:=137) (b:=false) rfl (by kernel_rfl) (by decide) rfl) (fun a' hA w' hw=>by have e138:=hA.get 138 rfl; have ec:∀ v,a'.eval (.const v)=v:=fun _=>rfl; have q0:=HC2.out _ hw; clear hA; generalize a'.eval=ρ at *; simp [go_sem,ec,e138,q0]; try rfl) ?_
      clear hF
      intro hF
      refine take_fp 26 [27,28,29,30,31,32,33,34,35,36,37,38,39,40,41,42,43,44,45,46,47,48,49,50,51,52,53,54,55,56] (oi:=⟨some 140,.move (.tmp 0),9,"law.go:125",#[⟨23,.guard⟩],some (23,false)⟩) (d:=140) (v:=.string s) hF hS rfl rfl (by decide) (by kernel_rfl) (by kernel_rfl) (by kernel_rfl) (by kernel_rfl) (fun _ _ _ h=>h) (fun a' hA=>hA.wantedB (j:=23) (dj:=137) (b:=false) rfl (by kernel_rfl) (by decide) rfl) (run_move_fs rfl rfl) ?_
      clear hF
      intro hF
      refine take_fp 27 [28,29,30,31,32,33,34,35,36,37,38,39,40,41,42,43,44,45,46,47,48,49,50,51,52,53,54,55,56] (oi:=⟨some 141,.call ⟨.builtin .len,#[.tmp 140],#[9]⟩,3,"law.go:125",#[⟨26,.data⟩,⟨23,.guard⟩],some (23,false)⟩) (d:=141) (v:=.int .i64 (s.size:Int)) hF hS rfl rfl (by decide) (by kernel_rfl) (by kernel_rfl) (by kernel_rfl) (by kernel_rfl) (fun _ _ _ h=>h) (fun a' hA=>hA.wantedB (j:=23) (dj:=137) (b:=false) rfl (by kernel_rfl) (by decide) rfl) (fun a' hA w' hw=>by have e140:=hA.get 140 rfl; have ec:∀ v,a'.eval (.const v)=v:=fun _=>rfl; clear hA; generalize a'.eval=ρ at *; simp [go_sem,ec,e140]; try rfl) ?_
      clear hF
      intro hF
      refine take_fp 28 [29,30,31,32,33,34,35,36,37,38,39,40,41,42,43,44,45,46,47,48,49,50,51,52,53,54,55,56] (oi:=⟨some 142,.binOp .gtr 3 (.tmp 139) (.tmp 141) 3,4,"law.go:125",#[⟨25,.data⟩,⟨27,.data⟩,⟨23,.guard⟩],some (23,false)⟩) (d:=142) (v:=.bool false) hF hS rfl rfl (by decide) (by kernel_rfl) (by kernel_rfl) (by kernel_rfl) (by kernel_rfl) (fun _ _ _ h=>h) (fun a' hA=>hA.wantedB (j:=23) (dj:=137) (b:=false) rfl (by kernel_rfl) (by decide) rfl) (fun a' hA w' hw=>by have e139:=hA.get 139 rfl; have e141:=hA.get 141 rfl; have ec:∀ v,a'.eval (.const v)=v:=fun _=>rfl; clear hA; generalize a'.eval=ρ at *; simp [go_sem,ec,e139,e141,t3,t3n,hes]; try rfl) ?_
      clear hF
      intro hF
      refine take_fp 29 [30,31,32,33,34,35,36,37,38,39,40,41,42,43,44,45,46,47,48,49,50,51,52,53,54,55,56] (oi:=⟨some 143,.pick (.tmp 137) (.const (.bool true)) (.tmp 142),4,"law.go:125",#[⟨23,.data⟩,⟨28,.data⟩],none⟩) (d:=143) (v:=.bool false) hF hS rfl rfl (by decide) (by kernel_rfl) (by kernel_rfl) (by kernel_rfl) (by kernel_rfl) (fun _ _ _ h=>h) (fun a' hA=>wanted_none rfl) (fun a' hA w' hw=>by have e137:=hA.get 137 rfl; have e142:=hA.get 142 rfl; have ec:∀ v,a'.eval (.const v)=v:=fun _=>rfl; clear hA; generalize a'.eval=ρ at *; simp [go_sem,ec,e137,e142]; try rfl) ?_
      clear hF
      intro hF
      refine take_fp 30 [31,32,33,34,35,36,37,38,39,40,41,42,43,44,45,46,47,48,49,50,51,52,53,54,55,56] (oi:=⟨some 144,.move (.tmp 143),4,"law.go:125",#[⟨29,.data⟩,⟨23,.chain⟩],none⟩) (d:=144) (v:=.bool false) hF hS rfl rfl (by decide) (by kernel_rfl) (by kernel_rfl) (by kernel_rfl) (by kernel_rfl) (fun _ _ _ h=>h) (fun a' hA=>wanted_none rfl) (run_move_fs rfl rfl) ?_
      clear hF
      intro hF
      refine take_fp 31 [32,33,34,35,36,37,38,39,40,41,42,43,44,45,46,47,48,49,50,51,52,53,54,55,56] (oi:=⟨some 145,.move (.tmp 16),3,"law.go:125",#[⟨30,.guard⟩],some (30,false)⟩) (d:=145) (v:=.int .i64 (i:Int)) hF hS rfl rfl (by decide) (by kernel_rfl) (by kernel_rfl) (by kernel_rfl) (by kernel_rfl) (fun _ _ _ h=>h) (fun a' hA=>hA.wantedB (j:=30) (dj:=144) (b:=false) rfl (by kernel_rfl) (by decide) rfl) (run_move_fs rfl rfl) ?_
      clear hF
      intro hF
      refine take_fp 32 [33,34,35,36,37,38,39,40,41,42,43,44,45,46,47,48,49,50,51,52,53,54,55,56] (oi:=⟨some 146,.binOp .gtr 3 (.tmp 145) (.const (.int .i64 0)) 3,4,"law.go:125",#[⟨31,.data⟩,⟨30,.guard⟩],some (30,false)⟩) (d:=146) (v:=.bool true) hF hS rfl rfl (by decide) (by kernel_rfl) (by kernel_rfl) (by kernel_rfl) (by kernel_rfl) (fun _ _ _ h=>h) (fun a' hA=>hA.wantedB (j:=30) (dj:=144) (b:=false) rfl (by kernel_rfl) (by decide) rfl) (fun a' hA w' hw=>by have e145:=hA.get 145 rfl; have ec:∀ v,a'.eval (.const v)=v:=fun _=>rfl; clear hA; generalize a'.eval=ρ at *; simp [go_sem,ec,e145,ti,tin]; try rfl) ?_
      clear hF
      intro hF
      refine take_fp 33 [34,35,36,37,38,39,40,41,42,43,44,45,46,47,48,49,50,51,52,53,54,55,56] (oi:=⟨some 147,.move (.tmp 146),4,"law.go:125",#[⟨32,.data⟩,⟨30,.chain⟩,⟨30,.guard⟩],some (30,false)⟩) (d:=147) (v:=.bool true) hF hS rfl rfl (by decide) (by kernel_rfl) (by kernel_rfl) (by kernel_rfl) (by kernel_rfl) (fun _ _ _ h=>h) (fun a' hA=>hA.wantedB (j:=30) (dj:=144) (b:=false) rfl (by kernel_rfl) (by decide) rfl) (run_move_fs rfl rfl) ?_
      clear hF
      intro hF
      refine take_fp 34 [35,42,43,44,45,46,47,48,49,50,51,52,53,54,55,56] (oi:=⟨some 148,.fieldAddr 41 (.tmp 17) 1,0,"law.go:125",#[⟨33,.guard⟩],some (33,true)⟩) (d:=148) (v:=.pointer (some ⟨wr.heap.size,1,none⟩)) hF hS rfl rfl (by decide) (by kernel_rfl) (by kernel_rfl) (by kernel_rfl) (by kernel_rfl) (fun _ _ _ h=>h) (fun a' hA=>hA.wantedB (j:=33) (dj:=147) (b:=true) rfl (by kernel_rfl) (by decide) rfl) (fun a' hA w' hw=>by have e17:=hA.get 17 rfl; have ec:∀ v,a'.eval (.const v)=v:=fun _=>rfl; clear hA; generalize a'.eval=ρ at *; simp [go_sem,ec,e17]; try rfl) ?_
      clear hF
      intro hF
      refine take_fp 35 [42,43,44,45,46,47,48,49,50,51,52,53,54,55,56] (oi:=⟨some 149,.load 3 (.tmp 148),3,"law.go:125",#[⟨34,.data⟩,⟨33,.guard⟩],some (33,true)⟩) (d:=149) (v:=.int .i64 (a:Int)) hF hS rfl rfl (by decide) (by kernel_rfl) (by kernel_rfl) (by kernel_rfl) (by kernel_rfl) (fun _ _ _ h=>h) (fun a' hA=>hA.wantedB (j:=33) (dj:=147) (b:=true) rfl (by kernel_rfl) (by decide) rfl) (fun a' hA w' hw=>by have e148:=hA.get 148 rfl; have ec:∀ v,a'.eval (.const v)=v:=fun _=>rfl; have q0:=HC1.out _ hw; clear hA; generalize a'.eval=ρ at *; simp [go_sem,ec,e148,q0]; try rfl) ?_
      clear hF
      intro hF
      refine take_fp 36 [39,40,41,42,43,44,45,46,47,48,49,50,51,52,53,54,55,56] (oi:=⟨some 150,.move (.tmp 8),27,"law.go:125",#[⟨33,.guard⟩],some (33,true)⟩) (d:=150) (v:=.slice (some ⟨oa,0,none⟩) m m) hF hS rfl rfl (by decide) (by kernel_rfl) (by kernel_rfl) (by kernel_rfl) (by kernel_rfl) (fun _ _ _ h=>h) (fun a' hA=>hA.wantedB (j:=33) (dj:=147) (b:=true) rfl (by kernel_rfl) (by decide) rfl) (run_move_fs rfl rfl) ?_
      clear hF
      intro hF
      refine take_fp 37 [38,39,40,41,42,43,44,45,46,47,48,49,50,51,52,53,54,55,56] (oi:=⟨some 151,.move (.tmp 16),3,"law.go:125",#[⟨33,.guard⟩],some (33,true)⟩) (d:=151) (v:=.int .i64 (i:Int)) hF hS rfl rfl (by decide) (by kernel_rfl) (by kernel_rfl) (by kernel_rfl) (by kernel_rfl) (fun _ _ _ h=>h) (fun a' hA=>hA.wantedB (j:=33) (dj:=147) (b:=true) rfl (by kernel_rfl) (by decide) rfl) (run_move_fs rfl rfl) ?_
      clear hF
      intro hF
      refine take_fp 38 [39,40,41,42,43,44,45,46,47,48,49,50,51,52,53,54,55,56] (oi:=⟨some 152,.binOp .sub 3 (.tmp 151) (.const (.int .i64 1)) 3,3,"law.go:125",#[⟨37,.data⟩,⟨33,.guard⟩],some (33,true)⟩) (d:=152) (v:=.int .i64 (ip:Int)) hF hS rfl rfl (by decide) (by kernel_rfl) (by kernel_rfl) (by kernel_rfl) (by kernel_rfl) (fun _ _ _ h=>h) (fun a' hA=>hA.wantedB (j:=33) (dj:=147) (b:=true) rfl (by kernel_rfl) (by decide) rfl) (fun a' hA w' hw=>by have e151:=hA.get 151 rfl; have ec:∀ v,a'.eval (.const v)=v:=fun _=>rfl; clear hA; generalize a'.eval=ρ at *; simp [go_sem,ec,e151,tsub2,tsub3]; try rfl) ?_
      clear hF
      intro hF
      refine take_fp 39 [40,41,42,43,44,45,46,47,48,49,50,51,52,53,54,55,56] (oi:=⟨some 153,.indexAddr 27 (.tmp 150) (.tmp 152),0,"law.go:125",#[⟨36,.data⟩,⟨38,.data⟩,⟨33,.guard⟩],some (33,true)⟩) (d:=153) (v:=.pointer (some ⟨oa,ip * 5,none⟩)) hF hS rfl rfl (by decide) (by kernel_rfl) (by kernel_rfl) (by kernel_rfl) (by kernel_rfl) (fun _ _ _ h=>h) (fun a' hA=>hA.wantedB (j:=33) (dj:=147) (b:=true) rfl (by kernel_rfl) (by decide) rfl) (fun a' hA w' hw=>by have e150:=hA.get 150 rfl; have e152:=hA.get 152 rfl; have ec:∀ v,a'.eval (.const v)=v:=fun _=>rfl; clear hA; generalize a'.eval=ρ at *; simp [go_sem,ec,e150,e152,ri1,ri2]; try rfl) ?_
      clear hF
      intro hF
      refine take_fp 40 [41,42,43,44,45,46,47,48,49,50,51,52,53,54,55,56] (oi:=⟨some 154,.fieldAddr 41 (.tmp 153) 2,0,"law.go:125",#[⟨39,.data⟩,⟨33,.guard⟩],some (33,true)⟩) (d:=154) (v:=.pointer (some ⟨oa,ip * 5+2,none⟩)) hF hS rfl rfl (by decide) (by kernel_rfl) (by kernel_rfl) (by kernel_rfl) (by kernel_rfl) (fun _ _ _ h=>h) (fun a' hA=>hA.wantedB (j:=33) (dj:=147) (b:=true) rfl (by kernel_rfl) (by decide) rfl) (fun a' hA w' hw=>by have e153:=hA.get 153 rfl; have ec:∀ v,a'.eval (.const v)=v:=fun _=>rfl; clear hA; generalize a'.eval=ρ at *; simp [go_sem,ec,e153]; try rfl) ?_
      clear hF
      intro hF
      refine take_fp 41 [42,43,44,45,46,47,48,49,50,51,52,53,54,55,56] (oi:=⟨some 155,.load 3 (.tmp 154),3,"law.go:125",#[⟨40,.data⟩,⟨33,.guard⟩],some (33,true)⟩) (d:=155) (v:=.int .i64 ep) hF hS rfl rfl (by decide) (by kernel_rfl) (by kernel_rfl) (by kernel_rfl) (by kernel_rfl) (fun _ _ _ h=>h) (fun a' hA=>hA.wantedB (j:=33) (dj:=147) (b:=true) rfl (by kernel_rfl) (by decide) rfl) (fun a' hA w' hw=>by have e154:=hA.get 154 rfl; have ec:∀ v,a'.eval (.const v)=v:=fun _=>rfl; have q0:=HC5.out _ hw; clear hA; generalize a'.eval=ρ at *; simp [go_sem,ec,e154,q0]; try rfl) ?_
      clear hF
      intro hF
      refine take_fp 42 [43,44,45,46,47,48,49,50,51,52,53,54,55,56] (oi:=⟨some 156,.binOp .lss 3 (.tmp 149) (.tmp 155) 3,4,"law.go:125",#[⟨35,.data⟩,⟨41,.data⟩,⟨33,.guard⟩],some (33,true)⟩) (d:=156) (v:=.bool false) hF hS rfl rfl (by decide) (by kernel_rfl) (by kernel_rfl) (by kernel_rfl) (by kernel_rfl) (fun _ _ _ h=>h) (fun a' hA=>hA.wantedB (j:=33) (dj:=147) (b:=true) rfl (by kernel_rfl) (by decide) rfl) (fun a' hA w' hw=>by have e149:=hA.get 149 rfl; have e155:=hA.get 155 rfl; have ec:∀ v,a'.eval (.const v)=v:=fun _=>rfl; clear hA; generalize a'.eval=ρ at *; simp [go_sem,ec,e149,e155,t1,tp]; try rfl) ?_
      clear hF
      intro hF
      refine take_fp 43 [44,45,46,47,48,49,50,51,52,53,54,55,56] (oi:=⟨some 157,.pick (.tmp 147) (.tmp 156) (.const (.bool false)),4,"law.go:125",#[⟨33,.data⟩,⟨42,.data⟩,⟨30,.guard⟩],some (30,false)⟩) (d:=157) (v:=.bool false) hF hS rfl rfl (by decide) (by kernel_rfl) (by kernel_rfl) (by kernel_rfl) (by kernel_rfl) (fun _ _ _ h=>h) (fun a' hA=>hA.wantedB (j:=30) (dj:=144) (b:=false) rfl (by kernel_rfl) (by decide) rfl) (fun a' hA w' hw=>by have e147:=hA.get 147 rfl; have e156:=hA.get 156 rfl; have ec:∀ v,a'.eval (.const v)=v:=fun _=>rfl; clear hA; generalize a'.eval=ρ at *; simp [go_sem,ec,e147,e156]; try rfl) ?_
      clear hF
      intro hF
      refine take_fp 44 [45,46,47,48,49,50,51,52,53,54,55,56] (oi:=⟨some 158,.pick (.tmp 144) (.const (.bool true)) (.tmp 157),4,"law.go:125",#[⟨30,.data⟩,⟨43,.data⟩],none⟩) (d:=158) (v:=.bool false) hF hS rfl rfl (by decide) (by kernel_rfl) (by kernel_rfl) (by kernel_rfl) (by kernel_rfl) (fun _ _ _ h=>h) (fun a' hA=>wanted_none rfl) (fun a' hA w' hw=>by have e144:=hA.get 144 rfl; have e157:=hA.get 157 rfl; have ec:∀ v,a'.eval (.const v)=v:=fun _=>rfl; clear hA; generalize a'.eval=ρ at *; simp [go_sem,ec,e144,e157]; try rfl) ?_
      clear hF
      intro hF
      refine take_fp 45 [46,47,48,49,50,51,52,53,54,55,56] (oi:=⟨some 159,.move (.tmp 158),4,"law.go:125",#[⟨44,.data⟩,⟨33,.chain⟩],none⟩) (d:=159) (v:=.bool false) hF hS rfl rfl (by decide) (by kernel_rfl) (by kernel_rfl) (by kernel_rfl) (by kernel_rfl) (fun _ _ _ h=>h) (fun a' hA=>wanted_none rfl) (run_move_fs rfl rfl) ?_
      clear hF
      intro hF
      refine take_fp 46 [47,54,55,56] (oi:=⟨some 160,.fieldAddr 41 (.tmp 17) 3,0,"law.go:125",#[⟨45,.guard⟩],some (45,false)⟩) (d:=160) (v:=.pointer (some ⟨wr.heap.size,3,none⟩)) hF hS rfl rfl (by decide) (by kernel_rfl) (by kernel_rfl) (by kernel_rfl) (by kernel_rfl) (fun _ _ _ h=>h) (fun a' hA=>hA.wantedB (j:=45) (dj:=159) (b:=false) rfl (by kernel_rfl) (by decide) rfl) (fun a' hA w' hw=>by have e17:=hA.get 17 rfl; have ec:∀ v,a'.eval (.const v)=v:=fun _=>rfl; clear hA; generalize a'.eval=ρ at *; simp [go_sem,ec,e17]; try rfl) ?_
      clear hF
      intro hF
      refine take_fp 47 [54,55,56] (oi:=⟨some 161,.load 3 (.tmp 160),3,"law.go:125",#[⟨46,.data⟩,⟨45,.guard⟩],some (45,false)⟩) (d:=161) (v:=.int .i64 sp) hF hS rfl rfl (by decide) (by kernel_rfl) (by kernel_rfl) (by kernel_rfl) (by kernel_rfl) (fun _ _ _ h=>h) (fun a' hA=>hA.wantedB (j:=45) (dj:=159) (b:=false) rfl (by kernel_rfl) (by decide) rfl) (fun a' hA w' hw=>by have e160:=hA.get 160 rfl; have ec:∀ v,a'.eval (.const v)=v:=fun _=>rfl; have q0:=HC3.out _ hw; clear hA; generalize a'.eval=ρ at *; simp [go_sem,ec,e160,q0]; try rfl) ?_
      clear hF
      intro hF
      refine take_fp 48 [53,54,55,56] (oi:=⟨some 162,.move (.tmp 0),9,"law.go:125",#[⟨45,.guard⟩],some (45,false)⟩) (d:=162) (v:=.string s) hF hS rfl rfl (by decide) (by kernel_rfl) (by kernel_rfl) (by kernel_rfl) (by kernel_rfl) (fun _ _ _ h=>h) (fun a' hA=>hA.wantedB (j:=45) (dj:=159) (b:=false) rfl (by kernel_rfl) (by decide) rfl) (run_move_fs rfl rfl) ?_
      clear hF
      intro hF
      refine take_fp 49 [50,53,54,55,56] (oi:=⟨some 163,.fieldAddr 41 (.tmp 17) 1,0,"law.go:125",#[⟨45,.guard⟩],some (45,false)⟩) (d:=163) (v:=.pointer (some ⟨wr.heap.size,1,none⟩)) hF hS rfl rfl (by decide) (by kernel_rfl) (by kernel_rfl) (by kernel_rfl) (by kernel_rfl) (fun _ _ _ h=>h) (fun a' hA=>hA.wantedB (j:=45) (dj:=159) (b:=false) rfl (by kernel_rfl) (by decide) rfl) (fun a' hA w' hw=>by have e17:=hA.get 17 rfl; have ec:∀ v,a'.eval (.const v)=v:=fun _=>rfl; clear hA; generalize a'.eval=ρ at *; simp [go_sem,ec,e17]; try rfl) ?_
      clear hF
      intro hF
      refine take_fp 50 [53,54,55,56] (oi:=⟨some 164,.load 3 (.tmp 163),3,"law.go:125",#[⟨49,.data⟩,⟨45,.guard⟩],some (45,false)⟩) (d:=164) (v:=.int .i64 (a:Int)) hF hS rfl rfl (by decide) (by kernel_rfl) (by kernel_rfl) (by kernel_rfl) (by kernel_rfl) (fun _ _ _ h=>h) (fun a' hA=>hA.wantedB (j:=45) (dj:=159) (b:=false) rfl (by kernel_rfl) (by decide) rfl) (fun a' hA w' hw=>by have e163:=hA.get 163 rfl; have ec:∀ v,a'.eval (.const v)=v:=fun _=>rfl; have q0:=HC1.out _ hw; clear hA; generalize a'.eval=ρ at *; simp [go_sem,ec,e163,q0]; try rfl) ?_
      clear hF
      intro hF
      refine take_fp 51 [52,53,54,55,56] (oi:=⟨some 165,.fieldAddr 41 (.tmp 17) 2,0,"law.go:125",#[⟨45,.guard⟩],some (45,false)⟩) (d:=165) (v:=.pointer (some ⟨wr.heap.size,2,none⟩)) hF hS rfl rfl (by decide) (by kernel_rfl) (by kernel_rfl) (by kernel_rfl) (by kernel_rfl) (fun _ _ _ h=>h) (fun a' hA=>hA.wantedB (j:=45) (dj:=159) (b:=false) rfl (by kernel_rfl) (by decide) rfl) (fun a' hA w' hw=>by have e17:=hA.get 17 rfl; have ec:∀ v,a'.eval (.const v)=v:=fun _=>rfl; clear hA; generalize a'.eval=ρ at *; simp [go_sem,ec,e17]; try rfl) ?_
      clear hF
      intro hF
      refine take_fp 52 [53,54,55,56] (oi:=⟨some 166,.load 3 (.tmp 165),3,"law.go:125",#[⟨51,.data⟩,⟨45,.guard⟩],some (45,false)⟩) (d:=166) (v:=.int .i64 (e:Int)) hF hS rfl rfl (by decide) (by kernel_rfl) (by kernel_rfl) (by kernel_rfl) (by kernel_rfl) (fun _ _ _ h=>h) (fun a' hA=>hA.wantedB (j:=45) (dj:=159) (b:=false) rfl (by kernel_rfl) (by decide) rfl) (fun a' hA w' hw=>by have e165:=hA.get 165 rfl; have ec:∀ v,a'.eval (.const v)=v:=fun _=>rfl; have q0:=HC2.out _ hw; clear hA; generalize a'.eval=ρ at *; simp [go_sem,ec,e165,q0]; try rfl) ?_
      clear hF
      intro hF
      refine take_fp 53 [54,55,56] (oi:=⟨some 167,.slice 9 (.tmp 162) (some (.tmp 164)) (some (.tmp 166)) none,9,"law.go:125",#[⟨48,.data⟩,⟨50,.data⟩,⟨52,.data⟩,⟨45,.guard⟩],some (45,false)⟩) (d:=167) (v:=.string (s.extract a e)) hF hS rfl rfl (by decide) (by kernel_rfl) (by kernel_rfl) (by kernel_rfl) (by kernel_rfl) (fun _ _ _ h=>h) (fun a' hA=>hA.wantedB (j:=45) (dj:=159) (b:=false) rfl (by kernel_rfl) (by decide) rfl) (fun a' hA w' hw=>by have e162:=hA.get 162 rfl; have e164:=hA.get 164 rfl; have e166:=hA.get 166 rfl; have ec:∀ v,a'.eval (.const v)=v:=fun _=>rfl; clear hA; generalize a'.eval=ρ at *; simp [go_sem,ec,e162,e164,e166,s0,s1,s2,s3,s4,hae,hes]; try rfl) ?_
      clear hF
      intro hF
      refine call_fp 54 (oi:=⟨some 168,.call ⟨.value (.func 29),#[.tmp 161,.tmp 167],#[3,9]⟩,4,"law.go:125",#[⟨47,.data⟩,⟨53,.data⟩,⟨45,.chain⟩,⟨45,.guard⟩],some (45,false)⟩) (d:=168) (R:=fun e w'=>e=.returned (.bool true)∧Below W6.heap.size W6 w') hF rfl rfl (by decide) (by kernel_rfl) (fun a' hA=>hA.wantedB (j:=45) (dj:=159) (b:=false) rfl (by kernel_rfl) (by decide) rfl) (fun a' hA=>by have e161:=hA.get 161 rfl; have e167:=hA.get 167 rfl; have ef:∀ f,a'.eval (.func f)=.func (.func f) #[] #[]:=fun _=>rfl; have ec:∀ v,a'.eval (.const v)=v:=fun _=>rfl; clear hA; generalize a'.eval=ρ at *; simp [go_sem,ef,ec,e161,e167]) (HMY.out _ hS) (by rintro w' ⟨h,_⟩; cases h) (by rintro ch w' ⟨h,_⟩; cases h) ?_
      rintro v54 w54x ⟨h,hb⟩
      have h:=Ending.returned.inj h
      subst h
      refine ⟨fun _=>hb,?_⟩
      clear hS
      have hS:(fun W:World=>Below W6.heap.size W6 W) w54x:=hb
      clear hb hF
      intro hF
      refine take_fp 55 [56] (oi:=⟨some 169,.unOp .not 4 (.tmp 168),4,"law.go:125",#[⟨54,.data⟩,⟨45,.guard⟩],some (45,false)⟩) (d:=169) (v:=.bool false) hF hS rfl rfl (by decide) (by kernel_rfl) (by kernel_rfl) (by kernel_rfl) (by kernel_rfl) (fun _ _ _ h=>h) (fun a' hA=>hA.wantedB (j:=45) (dj:=159) (b:=false) rfl (by kernel_rfl) (by decide) rfl) (fun a' hA w' hw=>by have e168:=hA.get 168 rfl; have ec:∀ v,a'.eval (.const v)=v:=fun _=>rfl; clear hA; generalize a'.eval=ρ at *; simp [go_sem,ec,e168]; try rfl) ?_
      clear hF
      intro hF
      refine one_fp 56 (oi:=⟨some 170,.pick (.tmp 159) (.const (.bool true)) (.tmp 169),4,"law.go:125",#[⟨45,.data⟩,⟨55,.data⟩],none⟩) (d:=170) (v:=.bool false) hF rfl rfl (by decide) (by kernel_rfl) (by kernel_rfl) (fun a' hA=>wanted_none rfl) (fun a' hA=>by have e159:=hA.get 159 rfl; have e169:=hA.get 169 rfl; have ec:∀ v,a'.eval (.const v)=v:=fun _=>rfl; clear hA; generalize a'.eval=ρ at *; simp [go_sem,ec,e159,e169]; try rfl) ?_
      clear hF
      intro hF
      refine wpTill_done (by kernel_rfl) ?_ _
      subst ha0
      simp only [Act.put,List.setIfInBounds_toArray,List.set_cons_zero,List.set_cons_succ]
      have HBW:=Lib.hid (HB56.out.trans (hS.mono HB56.out.size))
      clear hF hS HC0 HC1 HC2 HC3 HC4 HMY HPV
      go_wp2_with fail
      go_roundw
      case rel=>exact ⟨i+1,by omega,by go_num,HBW⟩
      case measure=>simp [intOf]; omega
    ·have him:i=m:=by omega
     subst him
     have HAV:=Lib.hid (HAE.out wr (HK5.out.step HBi.out))
     have HBf:=Lib.hid (HBW5.out.trans (HBi.out.mono HBW5.out.size))
     clear HBi
     go_wp2_with fail
     refine HAV.out.mono ?_
     rintro x w9 ⟨rfl,hb9⟩
     have HB9:=Lib.hid (HBf.out.trans (hb9.mono HBf.out.size))
     clear hb9 HAV
     go_wp2_with fail
     go_ret
     exact ⟨rfl,HB9.out⟩
end Go.Proofs.YtmpmfamiegpmgaaGreatDoor

namespace Go.Proofs.YtmpmfamiegpmgaaGreatDoor
open Go.RowKit
theorem once_walk (s:ByteArray) (file first:Int) (w:World) (hs:s.size≤maxLen) (hwf:(Lit.int .i64 file).wf=true) (hwf1:(Lit.int .i64 first).wf=true) (hk:Kw w) :
  Calls Tryz.prog 5 #[.string s,.int .i64 file,.int .i64 first] w fun e w'=>e=.returned (.bool true)∧Below w.heap.size w w':=once_any s hs file first hwf hwf1 w hk
end Go.Proofs.YtmpmfamiegpmgaaGreatDoor
