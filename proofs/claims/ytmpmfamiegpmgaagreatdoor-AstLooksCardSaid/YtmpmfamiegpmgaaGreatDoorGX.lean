/-
  The kids of a part, with room for their nodes.; A tree of nodes that is being made: what is made lies, what is still to be made is empty.; A part's turn in the making of nodes: its own cells, then room for its kids.; All nodes of a branch are made; what they are then.
-/
import Derived.Test.YtmpmfamiegpmgaaGreatDoorGV
import Derived.BigRegion
import Derived.Deep.Cut
import Derived.Deep.MidRow
import Derived.Test.YtmpmfamiegpmgaaGreatDoorGW
namespace Go.Proofs.YtmpmfamiegpmgaaGreatDoor
open Tryz
open Go.Lib (cell_of_heap hid)
open Go.RowKit
set_option maxRecDepth 20000
set_option linter.unusedVariables false
set_option linter.unusedSimpArgs false
set_option maxHeartbeats 2000000 in
theorem EJ (bb bo nb no lb lo:Nat) (h:Hd) (W:World) (hl1:W.cell? ⟨lb,lo,none⟩=some (.pointer (some ⟨bb,bo,none⟩))) (hl2:W.cell? ⟨lb,lo+1,none⟩=some (.pointer (some ⟨nb,no,none⟩)))
  (hb:bP W bb bo h) (h0:h.kn=0):Calls prog 86 #[.pointer (some ⟨lb,lo,none⟩)] W fun x W'=>x=.returned (.slice none 0 0)∧W=W':=by
 obtain ⟨a0,a1,a2,a3,a4,a5⟩:=hb;rw [h0] at a5
 go_enter func86,ntmps86
 go_wp2
 go_ret
 exact ⟨rfl,rfl⟩
theorem Pv:(prog.info? 26).map (fun i=>(i.zero,i.size,i.bytes))=some (some (.agg #[.int .i64 0,.int .i64 0,.int .i64 0,.int .i64 0,.slice none 0 0,.slice none 0 0]),6,80):=by kernel_rfl
theorem P6:(prog.info? 151).map (fun i=>(i.zero,i.size,i.bytes))=some (some (.agg #[.pointer none,.pointer none]),2,16):=by kernel_rfl
theorem vF (cs:Array Value) (n i j:Nat) (hj:j < cs.size) (hi:i * cs.size+j < n):(madeCells cs n)[i * cs.size+j]?=cs[j]?:=by
 have h1:(i * cs.size+j) % cs.size=j:=by rw [Nat.add_comm,Nat.mul_comm,Nat.add_mul_mod_self_left]; exact Nat.mod_eq_of_lt hj
 unfold madeCells;rw [Array.getElem?_map,Array.getElem?_range,if_pos hi];simp only [Option.map_some,h1];rw [getElem!_pos cs j hj,Array.getElem?_eq_getElem hj]
theorem Tz (c:Nat) (hc:c≤1000000):∃ Z:Array Value,(∀ i j,i < c→j < 6→Z[i * 6+j]?=(#[.int .i64 0,.int .i64 0,.int .i64 0,.int .i64 0,.slice none 0 0,.slice none 0 0]:Array Value)[j]?)∧∀ w,(Instr.makeSlice 24 (.int .i64 (c:Int)) (.int .i64 (c:Int))).run prog w=.ok (.slice (some ⟨w.heap.size,0,none⟩) c c) (w.alloc (.cells Z 26)):=by
 obtain ⟨i0,hi0,hy0,hy1,hy2⟩:=info_parts Pv;refine ⟨madeCells #[.int .i64 0,.int .i64 0,.int .i64 0,.int .i64 0,.slice none 0 0,.slice none 0 0] (c * 6),fun i j hi hj=>vF #[.int .i64 0,.int .i64 0,.int .i64 0,.int .i64 0,.slice none 0 0,.slice none 0 0] (c * 6) i j hj (by show i * 6+j < c * 6; omega),fun w=>?_⟩
 have:=run_make (P:=prog) w 24 26 i0 _ underlying24 hi0 hy0 .i64 .i64 c c (by omega) (Int.le_refl _) (by rw [hy2]; omega) (by omega)
 rw [hy1] at this;simp only [Int.toNat_natCast] at this;exact this
theorem PO (c:Nat) (hc:c≤1000000):∃ Z:Array Value,(∀ i j,i < c→j < 2→Z[i * 2+j]?=(#[.pointer none,.pointer none]:Array Value)[j]?)∧∀ w,(Instr.makeSlice 207 (.int .i64 (c:Int)) (.int .i64 (c:Int))).run prog w=.ok (.slice (some ⟨w.heap.size,0,none⟩) c c) (w.alloc (.cells Z 151)):=by
 obtain ⟨i0,hi0,hy0,hy1,hy2⟩:=info_parts P6;refine ⟨madeCells #[.pointer none,.pointer none] (c * 2),fun i j hi hj=>vF #[.pointer none,.pointer none] (c * 2) i j hj (by show i * 2+j < c * 2; omega),fun w=>?_⟩
 have:=run_make (P:=prog) w 207 151 i0 _ underlying207 hi0 hy0 .i64 .i64 c c (by omega) (Int.le_refl _) (by rw [hy2]; omega) (by omega)
 rw [hy1] at this;simp only [Int.toNat_natCast] at this;exact this
structure LkS (W W':World) (nb no kb lk kkb kko c:Nat) (hn:Hd):Prop where
 gr:W.grownBy W' (some nb)
 k0:W.heap.size≤kb
 k1:W.heap.size≤lk
 ne:kb≠lk
 k2:kb < W'.heap.size
 k3:lk < W'.heap.size
 zero:∀ i,i < c→bP W' kb (i * 6) ⟨0,0,0,0,none,0,0,[],none,0,0⟩
 kfz:∀ o,W'.frozen? ⟨kb,o,none⟩=false
 low:∀ i,i < c→W'.cell? ⟨lk,i * 2,none⟩=some (.pointer (some ⟨kkb,kko+i * 6,none⟩))∧W'.cell? ⟨lk,i * 2+1,none⟩=some (.pointer (some ⟨kb,i * 6,none⟩))
 node:bP W' nb no { hn with kp:=some ⟨kb,0,none⟩,kn:=c,kc:=c }
 ncell:∀ o,(o < no∨no+6≤o)→W'.cell? ⟨nb,o,none⟩=W.cell? ⟨nb,o,none⟩
 nfz:∀ o,W'.frozen? ⟨nb,o,none⟩=false
set_option maxHeartbeats 4000000 in
theorem F5 (bb bo nb no lb lo kkb kko c:Nat) (h hn:Hd) (W:World) (hl1:W.cell? ⟨lb,lo,none⟩=some (.pointer (some ⟨bb,bo,none⟩))) (hl2:W.cell? ⟨lb,lo+1,none⟩=some (.pointer (some ⟨nb,no,none⟩))) (hlb:lb < W.heap.size) (Oz:lb≠nb)
  (hb:bP W bb bo h) (hbl:bb < W.heap.size) (Yu:bb≠nb) (hn0:h.kn=c) (hc0:0 < c) (hc9:c≤1000000) (hkc:c≤h.kc) (hkp:h.kp=some ⟨kkb,kko,none⟩) (Vg:bP W nb no hn) (hnl:nb < W.heap.size) (hfz:∀ o,W.frozen? ⟨nb,o,none⟩=false) :
  Calls prog 86 #[.pointer (some ⟨lb,lo,none⟩)] W fun x W'=>∃ kb lk:Nat,x=.returned (.slice (some ⟨lk,0,none⟩) c c)∧LkS W W' nb no kb lk kkb kko c hn:=by
 obtain ⟨a0,a1,a2,a3,a4,a5⟩:=hb;obtain ⟨n0,n1,n2,n3,n4,n5⟩:=Vg;obtain ⟨hk,hm,hf,ht,np,nn,nc,ns,kp,kn,kc⟩:=h;dsimp only at *
 subst hn0 hkp;have hcz:((kn:Int) == 0)=false:=by simp; omega
 have z5:=hfz (no+5);obtain ⟨Z,hZ,hmk⟩:=Tz kn hc9;obtain ⟨Z2,hZ2,abS⟩:=PO kn hc9;have HZ:=hid hZ;have HZ2:=hid hZ2;clear hZ hZ2
 go_enter func86,ntmps86
 go_wp2_with fail
 go_region
 obtain ⟨W1,hW1⟩:∃ W1,W1=((W.setCell ⟨nb,no+5,none⟩ (.slice (some ⟨W.heap.size,0,none⟩) kn kn)).alloc (.cells Z 26)).drew:=⟨_,rfl⟩
 have hsz:(W.setCell ⟨nb,no+5,none⟩ (.slice (some ⟨W.heap.size,0,none⟩) kn kn)).heap.size=W.heap.size:=by simp
 have hZ1:W1.heap[W.heap.size]?=some (.cells Z 26):=by
  have:=heap_alloc_new (W.setCell ⟨nb,no+5,none⟩ (.slice (some ⟨W.heap.size,0,none⟩) kn kn)) (.cells Z 26)
  rw [hsz] at this;rw [hW1]; exact this
 have hg1:W.grownBy W1 (some nb):=by
  rw [hW1];exact ae (aN nb (no+5) _) (grown_below (((Below.refl _ _).alloc (Nat.le_refl _) _).drew) _)
 have hc1:∀ o,W1.cell? ⟨nb,o,none⟩=(W.setCell ⟨nb,no+5,none⟩ (.slice (some ⟨W.heap.size,0,none⟩) kn kn)).cell? ⟨nb,o,none⟩:=fun o=>by
  rw [hW1];exact (((Below.refl (W.setCell ⟨nb,no+5,none⟩ (.slice (some ⟨W.heap.size,0,none⟩) kn kn)).heap.size _).alloc (Nat.le_refl _) (.cells Z 26)).drew).cell (p:=⟨nb,o,none⟩) (by rw [hsz]; exact hnl)
 have hf1:∀ o,W1.frozen? ⟨nb,o,none⟩=false:=fun o=>by
  have h1:=hfz o;have h2:W1.heap[nb]?=(W.setCell ⟨nb,no+5,none⟩ (.slice (some ⟨W.heap.size,0,none⟩) kn kn)).heap[nb]?:=by
   rw [hW1]; exact heap_alloc_old _ _ (by rw [hsz]; exact hnl)
  have h3:(W.setCell ⟨nb,no+5,none⟩ (.slice (some ⟨W.heap.size,0,none⟩) kn kn)).frozen? ⟨nb,o,none⟩=false:=by rw [World.frozen?_setCell]; exact h1
  simp only [World.frozen?] at h3 ⊢;rw [h2]; exact h3
 have hzs:W1.heap.size=W.heap.size+1:=by rw [hW1]; simp
 obtain ⟨kb,hkb⟩:∃ kb,kb=W.heap.size:=⟨_,rfl⟩
 rw [← hW1,← hkb];rw [← hkb] at hZ1 hc1;have D8:bP W1 nb no { hn with kp:=some ⟨kb,0,none⟩,kn:=kn,kc:=kn }:=by
  refine ⟨(hc1 _).trans ((aZ (addr_ne (by omega))).trans n0),(hc1 _).trans ((aZ (addr_ne (by omega))).trans n1),(hc1 _).trans ((aZ (addr_ne (by omega))).trans n2),(hc1 _).trans ((aZ (addr_ne (by omega))).trans n3),(hc1 _).trans ((aZ (addr_ne (by omega))).trans n4),(hc1 _).trans ?_⟩
  exact kS n5
 have Vh:∀ o,(o < no∨no+6≤o)→W1.cell? ⟨nb,o,none⟩=W.cell? ⟨nb,o,none⟩:=fun o ho=>(hc1 o).trans (aZ (addr_ne (by omega)))
 have p1:=(World.cell?_of_block (a:=⟨lb,lo,none⟩) (hg1.block lb hlb (fun e=>Oz (Option.some.inj e)))).trans hl1;have p2:=(World.cell?_of_block (a:=⟨lb,lo+1,none⟩) (hg1.block lb hlb (fun e=>Oz (Option.some.inj e)))).trans hl2;have p5:=(World.cell?_of_block (a:=⟨bb,bo+5,none⟩) (hg1.block bb hbl (fun e=>Yu (Option.some.inj e)))).trans a5;have m5:=D8.2.2.2.2.2;dsimp only at m5
 have Xk:=hid (And.intro p1 (And.intro p2 (And.intro p5 m5)));have zY:=hid hg1;have Vj:=hid D8;have HNC:=hid Vh;have Sl:=hid hf1;have HZ1:=hid hZ1;have hlk0:=heap_alloc_new W1 (.cells Z2 151);have hbk:Below W1.heap.size W1 (W1.alloc (.cells Z2 151)):=(Below.refl _ _).alloc (Nat.le_refl _) _;have zS:=hid hbk;have OC:=hid hlk0;have Vk:lb < W1.heap.size:=by omega
 have Yv:bb < W1.heap.size:=by omega
 have OD:nb < W1.heap.size:=by omega
 have Vl:kb < W1.heap.size:=by omega
 have tX:Hid (W.heap.size=kb∧W1.heap.size=kb+1):=hid ⟨hkb.symm,by omega⟩;clear hW1 hsz hZ1 hg1 hc1 hf1 D8 Vh hl1 hl2 a0 a1 a2 a3 a4 a5 n0 n1 n2 n3 n4 n5 z5 hfz hbk hlk0 hzs hkb hmk
 go_wp2_with fail
 obtain ⟨lk,hlk⟩:∃ lk,lk=W1.heap.size:=⟨_,rfl⟩
 rw [← hlk] at OC;rw [← hlk];have Sm:=hid hlk;obtain ⟨W2,hW2⟩:∃ W2,W2=W1.alloc (.cells Z2 151):=⟨_,rfl⟩
 have Yw:Hid (W2.heap.size=lk+1):=hid (by rw [hW2,hlk]; simp);rw [← hW2] at zS OC;rw [← hW2];have HE:Hid (∀ k j,k < kn→j < 2→(W2.cell? ⟨lk,k * 2+j,none⟩).isSome=true):=hid (fun k j hk hj=>by
  rw [cell_of_heap OC.out,HZ2.out k j hk hj]
  match j,hj with
  | 0,_=>rfl
  | 1,_=>rfl)
 have Ua:Hid (∀ o,W2.frozen? ⟨lk,o,none⟩=false):=hid (fun o=>by simp [World.frozen?,OC.out]);clear hW2 hlk p1 p2 p5 m5;have HP:Hid (∀ wr,W2.grownBy wr (some lk)→wr.cell? ⟨lb,lo,none⟩=some (.pointer (some ⟨bb,bo,none⟩))∧wr.cell? ⟨lb,lo+1,none⟩=some (.pointer (some ⟨nb,no,none⟩))∧wr.cell? ⟨bb,bo+5,none⟩=some (.slice (some ⟨kkb,kko,none⟩) kn kc)∧wr.cell? ⟨nb,no+5,none⟩=some (.slice (some ⟨kb,0,none⟩) kn kn)):=hid (fun wr hg=>by
  have far:∀ b o,b < W1.heap.size→wr.cell? ⟨b,o,none⟩=W1.cell? ⟨b,o,none⟩:=fun b o hb=>by
   have h1:wr.heap[b]?=W2.heap[b]?:=hg.block b (by have:=zS.out.size; omega) (fun e=>by have:=Option.some.inj e; have:=Sm.out; omega);rw [World.cell?_of_block (a:=⟨b,o,none⟩) h1];exact zS.out.cell (p:=⟨b,o,none⟩) hb
  exact ⟨(far _ _ Vk).trans Xk.out.1,(far _ _ Vk).trans Xk.out.2.1,(far _ _ Yv).trans Xk.out.2.2.1,(far _ _ OD).trans Xk.out.2.2.2⟩)
 go_loopw [40] (fun iv wr=>∃ i:Nat,i≤kn∧iv=.int .i64 i∧Hid (W2.grownBy wr (some lk))∧Hid (∀ o,wr.frozen? ⟨lk,o,none⟩=false)∧Hid (∀ k j,k < kn→j < 2→(wr.cell? ⟨lk,k * 2+j,none⟩).isSome=true) ∧
  Hid (∀ k,k < i→wr.cell? ⟨lk,k * 2,none⟩=some (.pointer (some ⟨kkb,kko+k * 6,none⟩))∧wr.cell? ⟨lk,k * 2+1,none⟩=some (.pointer (some ⟨kb,k * 6,none⟩)))) (fun iv _=>kn - (intOf iv).toNat)
 case atStart=>exact ⟨0,by omega,rfl,hid (dU _ _),Ua,HE,hid (fun k hk=>absurd hk (Nat.not_lt_zero k))⟩
 case round =>
  obtain ⟨i,hi,rfl,HG,HF,HX,HD⟩:=hrel
  by_cases hlt:i < kn
  ·obtain ⟨p1,p2,p5,m5⟩:=HP.out wr HG.out
   obtain ⟨v0,d0⟩:=Option.isSome_iff_exists.1 (HX.out i 0 hlt (by omega));obtain ⟨v1,d1⟩:=Option.isSome_iff_exists.1 (HX.out i 1 hlt (by omega));rw [Nat.add_zero] at d0;have f0:=HF.out (i * 2);have f1:=HF.out (i * 2+1);have r1:(0:Int)≤(i:Int):=by omega
   have r2:(i:Int) < (kn:Int):=by omega
   go_wp2_with fail
   go_region
   go_wp2_with fail
   go_roundw
   case rel =>
    have hsame:∀ a u,((((wr.setCell ⟨lk,i * 2,none⟩ (.pointer (some ⟨kkb,kko+i * 6,none⟩))).setCell ⟨lk,i * 2+1,none⟩ (.pointer (some ⟨kb,i * 6,none⟩))).drew).cell? a=u ↔ ((wr.setCell ⟨lk,i * 2,none⟩ (.pointer (some ⟨kkb,kko+i * 6,none⟩))).setCell ⟨lk,i * 2+1,none⟩ (.pointer (some ⟨kb,i * 6,none⟩))).cell? a=u):=fun a u=>Iff.rfl
    have q0:((wr.setCell ⟨lk,i * 2,none⟩ (.pointer (some ⟨kkb,kko+i * 6,none⟩))).setCell ⟨lk,i * 2+1,none⟩ (.pointer (some ⟨kb,i * 6,none⟩))).cell? ⟨lk,i * 2,none⟩=some (.pointer (some ⟨kkb,kko+i * 6,none⟩)) :=
     (aZ (addr_ne (by omega))).trans (kS d0)
    have q1:((wr.setCell ⟨lk,i * 2,none⟩ (.pointer (some ⟨kkb,kko+i * 6,none⟩))).setCell ⟨lk,i * 2+1,none⟩ (.pointer (some ⟨kb,i * 6,none⟩))).cell? ⟨lk,i * 2+1,none⟩=some (.pointer (some ⟨kb,i * 6,none⟩)) :=
     kS ((aZ (addr_ne (by omega))).trans d1)
    have qo:∀ o,o≠i * 2→o≠i * 2+1→((wr.setCell ⟨lk,i * 2,none⟩ (.pointer (some ⟨kkb,kko+i * 6,none⟩))).setCell ⟨lk,i * 2+1,none⟩ (.pointer (some ⟨kb,i * 6,none⟩))).cell? ⟨lk,o,none⟩=wr.cell? ⟨lk,o,none⟩:=fun o h1 h2 =>
     (aZ (addr_ne (fun e=>h2 e.symm))).trans (aZ (addr_ne (fun e=>h1 e.symm)))
    refine ⟨i+1,by omega,by go_num,hid (ae HG.out (ae (ae (aN lk _ _) (aN lk _ _)) (grown_below (Below.refl _ _).drew _))),hid (fun o=>?_),hid (fun k j hk hj=>?_),hid (fun k hk=>?_)⟩
    ·show World.frozen? _ _=false
     have:=HF.out o
     rw [← World.frozen?_setCell wr ⟨lk,i * 2,none⟩ _ (.pointer (some ⟨kkb,kko+i * 6,none⟩)),← World.frozen?_setCell _ ⟨lk,i * 2+1,none⟩ _ (.pointer (some ⟨kb,i * 6,none⟩))] at this;exact this
    ·show (((wr.setCell ⟨lk,i * 2,none⟩ (.pointer (some ⟨kkb,kko+i * 6,none⟩))).setCell ⟨lk,i * 2+1,none⟩ (.pointer (some ⟨kb,i * 6,none⟩))).cell? ⟨lk,k * 2+j,none⟩).isSome=true
     by_cases h1:k * 2+j=i * 2
     ·rw [h1,q0]; rfl
     ·by_cases h2:k * 2+j=i * 2+1
      ·rw [h2,q1]; rfl
      ·rw [qo _ h1 h2]; exact HX.out k j hk hj
    ·show ((wr.setCell ⟨lk,i * 2,none⟩ (.pointer (some ⟨kkb,kko+i * 6,none⟩))).setCell ⟨lk,i * 2+1,none⟩ (.pointer (some ⟨kb,i * 6,none⟩))).cell? ⟨lk,k * 2,none⟩=_∧((wr.setCell ⟨lk,i * 2,none⟩ (.pointer (some ⟨kkb,kko+i * 6,none⟩))).setCell ⟨lk,i * 2+1,none⟩ (.pointer (some ⟨kb,i * 6,none⟩))).cell? ⟨lk,k * 2+1,none⟩=_
     by_cases h1:k=i
     ·subst h1; exact ⟨q0,q1⟩
     ·rw [qo _ (by omega) (by omega),qo _ (by omega) (by omega)]
      exact HD.out k (by omega)
   case measure=>simp [intOf]; omega
  ·have he:i=kn:=by omega
   subst he
   go_wp2_with fail
   go_ret
   have far:∀ b,b < W1.heap.size→wr.heap[b]?=W1.heap[b]?:=fun b hb =>
    (HG.out.block b (by have:=zS.out.size; omega) (fun e=>by have:=Option.some.inj e; have:=Sm.out; omega)).trans (zS.out.block b hb)
   have hsz:=HG.out.size;have hs2:=Yw.out;have hs3:=tX.out;have abU:=Sm.out;refine ⟨kb,lk,rfl,?_,by omega,by omega,by omega,by omega,by omega,fun k hk=>?_,fun o=>?_,HD.out,?_,fun o ho=>?_,fun o=>?_⟩
   ·exact dm (dm zY.out (grown_below zS.out none) (fun q hq=>by cases hq)) HG.out (fun q hq=>by have:=Option.some.inj hq; omega)
   ·have e:=fun o=>(World.cell?_of_block (a:=⟨kb,o,none⟩) (far kb Vl)).trans (cell_of_heap HZ1.out o)
    have z:=HZ.out k;exact ⟨(e _).trans (by have:=z 0 hk (by omega); rw [Nat.add_zero] at this; exact this),(e _).trans (z 1 hk (by omega)),(e _).trans (z 2 hk (by omega)),(e _).trans (z 3 hk (by omega)),(e _).trans (z 4 hk (by omega)),(e _).trans (z 5 hk (by omega))⟩
   ·have:=far kb Vl
    simp only [World.frozen?];rw [this,HZ1.out]; simp
   ·exact Vj.out.ext fun j _=>World.cell?_of_block (a:=⟨nb,no+j,none⟩) (far nb OD)
   ·exact (World.cell?_of_block (a:=⟨nb,o,none⟩) (far nb OD)).trans (HNC.out o ho)
   ·have h1:=Sl.out o
    have:=far nb OD
    simp only [World.frozen?] at h1 ⊢;rw [this]; exact h1
open Go.RowKit Go.Maps
structure LE where
 y:Br
 bb:Nat
 bo:Nat
 lb:Nat
 lo:Nat
 nb:Nat
 no:Nat
abbrev LE.ad (e:LE):Addr:=⟨e.lb,e.lo,none⟩
abbrev LE.ba (e:LE):BA:=⟨e.y,e.bb,e.bo⟩
structure NAt (B W:World) (cls:Nat→Nat) (b o:Nat) (h:Hd):Prop where
 at_:bP W b o h
 lt:b < W.heap.size
 c1:cls b=1
 o6:o % 6=0
 low:B.heap.size≤b
 fz:∀ j,W.frozen? ⟨b,j,none⟩=false
 ins:InV mkI W h.np h.nn h.nc h.ns
 row:h.nn=0∨∃ rb,h.np=some ⟨rb,0,none⟩∧cls rb=2∧rb < W.heap.size
theorem Cb {W W':World} {b:Nat} (h:W'.heap[b]?=W.heap[b]?) (o:Nat):W'.frozen? ⟨b,o,none⟩=W.frozen? ⟨b,o,none⟩:=by simp only [World.frozen?]; rw [h]
structure Fr (cls:Nat→Nat) (W W':World):Prop where
 size:W.heap.size≤W'.heap.size
 blk:∀ b,b < W.heap.size→cls b≠0→W'.heap[b]?=W.heap[b]?
theorem NAt.fr {B W W':World} {cls:Nat→Nat} {b o:Nat} {h:Hd} (n:NAt B W cls b o h) (f:Fr cls W W'):NAt B W' cls b o h:=by
 have e:=f.blk b n.lt (by rw [n.c1]; decide);refine ⟨n.at_.ext fun j _=>World.cell?_of_block (a:=⟨b,o+j,none⟩) e,Nat.lt_of_lt_of_le n.lt f.size,n.c1,n.o6,n.low,fun j=>(Cb e j).trans (n.fz j),?_,?_⟩
 ·refine in_kept n.ins f.size fun a hn hp=>?_
  rcases n.row with h0 | ⟨rb,h1,h2,h3⟩
  ·exact absurd h0 hn
  ·rw [h1] at hp
   obtain rfl:=Option.some.inj hp;exact f.blk rb h3 (by rw [h2]; decide)
 ·rcases n.row with h0 | ⟨rb,h1,h2,h3⟩
  ·exact .inl h0
  ·exact .inr ⟨rb,h1,h2,Nat.lt_of_lt_of_le h3 f.size⟩
theorem NAt.cls {B W:World} {cls cls':Nat→Nat} {b o:Nat} {h:Hd} (n:NAt B W cls b o h) (hc:∀ b,b < W.heap.size→cls' b=cls b):NAt B W cls' b o h :=
 ⟨n.at_,n.lt,(hc b n.lt).trans n.c1,n.o6,n.low,n.fz,n.ins,n.row.imp id fun ⟨rb,h1,h2,h3⟩=>⟨rb,h1,(hc rb h3).trans h2,h3⟩⟩
structure PAt (B W:World) (cls:Nat→Nat) (e:LE):Prop where
 good:e.ba.Good B
 c3:cls e.lb=3
 lt:e.lb < W.heap.size
 p1:W.cell? ⟨e.lb,e.lo,none⟩=some (.pointer (some ⟨e.bb,e.bo,none⟩))
 p2:W.cell? ⟨e.lb,e.lo+1,none⟩=some (.pointer (some ⟨e.nb,e.no,none⟩))
theorem PAt.fr {B W W':World} {cls:Nat→Nat} {e:LE} (p:PAt B W cls e) (f:Fr cls W W'):PAt B W' cls e:=by
 have k:=f.blk e.lb p.lt (by rw [p.c3]; decide);exact ⟨p.good,p.c3,Nat.lt_of_lt_of_le p.lt f.size,(World.cell?_of_block (a:=⟨e.lb,_,none⟩) k).trans p.p1,(World.cell?_of_block (a:=⟨e.lb,_,none⟩) k).trans p.p2⟩
theorem PAt.cls {B W:World} {cls cls':Nat→Nat} {e:LE} (p:PAt B W cls e) (hc:∀ b,b < W.heap.size→cls' b=cls b):PAt B W cls' e:=⟨p.good,(hc _ p.lt).trans p.c3,p.lt,p.p1,p.p2⟩
structure EH (L:List Tok) (first:Int) (ts:List Int) (y:Br) (h:Hd):Prop where
 k:h.k=y.h.k
 m:h.m=y.h.m
 f:h.f=(iI L y.h.f.toNat y.h.t.toNat).1
 t:h.t=(iI L y.h.f.toNat y.h.t.toNat).2
 ns:h.ns=y.h.ns.map (lY first ts)
 pos:1≤y.h.k
def QX (L:List Tok) (first:Int) (ts:List Int) (M:Nat→Nat→Option Hd) (D:List (Br × Nat × Nat)) (refs:List LE):Prop :=
 ∀ d ∈ D,∃ h,M d.2.1 d.2.2=some h∧EH L first ts d.1 h∧((d.1.ks=[]∧h.kn=0)∨∃ kb,h.kp=some ⟨kb,0,none⟩∧h.kn=d.1.ks.length∧h.kn≤h.kc∧∀ i k,d.1.ks[i]?=some k→((k,kb,i * 6) ∈ D∨∃ e ∈ refs,e.y=k∧e.nb=kb∧e.no=i * 6))
structure Wu (W:World) (oa m:Nat):Prop where
 fz:∀ o,W.frozen? ⟨oa,o,none⟩=false
 full:∀ i,i < m→∃ v,gq W oa (i * 5) v
structure LS (B:World) (y0:Br) (wx mx fx qx ox oa gw gc mb m nx:Nat) (L:List Tok) (first file:Int) (ts:List Int) (cls:Nat→Nat) (M:Nat→Nat→Option Hd) (D:List (Br × Nat × Nat)) (l:List Br) (refs st:List LE) (g:Nat) (W:World):Prop where
 c:LwC B W wx mx fx qx ox oa gw gc mb m L first file ts
 old:∀ b,b < B.heap.size→cls b=0
 g0:cls g=0
 gl:B.heap.size≤g
 c4:cls oa=4
 c5:cls ox=5
 oal:oa < W.heap.size
 oc:Wu W oa m
 nm:∀ b o h,M b o=some h→NAt B W cls b o h
 pd:∀ e ∈ st,PAt B W cls e∧M e.nb e.no=some kE
 nd:(refs.map fun e=>(e.nb,e.no)).Nodup
 dt:QX L first ts M D refs
 dn:∀ d ∈ D,∀ e ∈ refs,¬ (d.2.1=e.nb∧d.2.2=e.no)
 root:(y0,nx,0) ∈ D∨∃ e ∈ refs,e.y=y0∧e.nb=nx∧e.no=0
 occ:∀ z ∈ l,∀ i t,z.h.ns[i]?=some t→gq W oa (iG ts t * 5) (wZ L file z.h.k z.h.ns.length i t)
section
variable {B:World} {y0:Br} {wx mx fx qx ox oa gw gc mb m nx:Nat} {L:List Tok} {first file:Int} {ts:List Int} {cls cls':Nat→Nat} {M:Nat→Nat→Option Hd} {D:List (Br × Nat × Nat)} {l:List Br} {refs st:List LE} {g g':Nat} {W W':World}
theorem LS.fr (s:LS B y0 wx mx fx qx ox oa gw gc mb m nx L first file ts cls M D l refs st g W) (f:Fr cls W W') (hb:Below B.heap.size B W') (hg0:cls g'=0) (hgl:B.heap.size≤g'):LS B y0 wx mx fx qx ox oa gw gc mb m nx L first file ts cls M D l refs st g' W':=by
 have e4:=f.blk oa s.oal (by rw [s.c4]; decide);have e5:=f.blk ox s.c.oxl (by rw [s.c5]; decide);have cc:=s.c;refine ⟨{ cc with hB:=hb,oxl:=Nat.lt_of_lt_of_le cc.oxl f.size,c5:=(World.cell?_of_block (a:=⟨ox,0,none⟩) e5).trans cc.c5 },s.old,hg0,hgl,s.c4,s.c5,Nat.lt_of_lt_of_le s.oal f.size,⟨fun o=>(Cb e4 o).trans (s.oc.fz o),fun i hi=>?_⟩,
  fun b o h hm=>(s.nm b o h hm).fr f,fun e he=>⟨(s.pd e he).1.fr f,(s.pd e he).2⟩,s.nd,s.dt,s.dn,s.root,fun z hz i t ht=>(s.occ z hz i t ht).ext fun j _=>World.cell?_of_block (a:=⟨oa,_,none⟩) e4⟩
 obtain ⟨v,hv⟩:=s.oc.full i hi;exact ⟨v,hv.ext fun j _=>World.cell?_of_block (a:=⟨oa,_,none⟩) e4⟩
theorem LS.recl (s:LS B y0 wx mx fx qx ox oa gw gc mb m nx L first file ts cls M D l refs st g W) (hc:∀ b,b < W.heap.size→cls' b=cls b) (hg:cls' g=0):LS B y0 wx mx fx qx ox oa gw gc mb m nx L first file ts cls' M D l refs st g W :=
 ⟨s.c,fun b hb=>(hc b (Nat.lt_of_lt_of_le hb s.c.hB.size)).trans (s.old b hb),hg,s.gl,(hc _ s.oal).trans s.c4,(hc _ s.c.oxl).trans s.c5,s.oal,s.oc,fun b o h hm=>(s.nm b o h hm).cls hc,fun e he=>⟨(s.pd e he).1.cls hc,(s.pd e he).2⟩,s.nd,s.dt,s.dn,s.root,s.occ⟩
theorem LS.stab (s:LS B y0 wx mx fx qx ox oa gw gc mb m nx L first file ts cls M D l refs st g W) (hg:W.grownBy W' (some g)) (hg':g'=g∨W.heap.size≤g'):∃ cls',LS B y0 wx mx fx qx ox oa gw gc mb m nx L first file ts cls' M D l refs st g' W':=by
 have hb:Below B.heap.size B W':=dE s.c.hB hg s.gl;have f:Fr cls W W':=⟨hg.size,fun b hb hc=>hg.block b hb (fun e=>hc (by rw [Option.some.inj e]; exact s.g0))⟩
 rcases hg' with rfl | h
 ·exact ⟨cls,s.fr f hb s.g0 s.gl⟩
 ·refine ⟨fun b=>if b=g' then 0 else cls b,?_⟩
  have s2:=s.recl (cls':=fun b=>if b=g' then 0 else cls b) (fun b hb=>if_neg (by omega)) (by
   show (if g=g' then 0 else cls g)=0
   split
   ·rfl
   ·exact s.g0)
  refine s2.fr ⟨hg.size,fun b hb hc=>hg.block b hb (fun e=>hc ?_)⟩ hb (if_pos rfl) (by have:=s.c.hB.size; omega)
  have:=Option.some.inj e
  subst this
  show (if b=g' then 0 else cls b)=0
  rw [if_neg (by omega)]; exact s.g0
end
structure EZ (y0:Br) (L:List Tok) (ts:List Int):Prop where
 rt:∀ z ∈ y0.flatB,0≤z.h.f∧z.h.f≤z.h.t∧z.h.f < (L.length:Int)∧z.h.t≤(L.length:Int)∧1≤z.h.k∧z.h.k≤44∧kQ z.h.k z.h.ns.length=true∧z.h.ns.length≤1000000∧z.ks.length≤1000000
 nd:(aS y0.flatB).Nodup
 inn:∀ t ∈ aS y0.flatB,t ∈ ts∧0≤t∧t < (L.length:Int)
section
variable {B:World} {y0:Br} {wx mx fx qx ox oa gw gc mb m nx:Nat} {L:List Tok} {first file:Int} {ts:List Int} {cls:Nat→Nat} {M:Nat→Nat→Option Hd} {D:List (Br × Nat × Nat)} {l:List Br} {st:List LE} {g:Nat} {W W':World} {e:LE}
def Half (B:World) (y0:Br) (wx mx fx qx ox oa gw gc mb m nx:Nat) (L:List Tok) (first file:Int) (ts:List Int) (l:List Br) (e:LE) (st:List LE) (g:Nat) (W:World):Prop :=
 ∃ cls M D h,LS B y0 wx mx fx qx ox oa gw gc mb m nx L first file ts cls M D (l++[e.y]) (e :: st) st g W∧M e.nb e.no=some h∧EH L first ts e.y h∧h.kn=0∧PAt B W cls e
theorem MS (s:LS B y0 wx mx fx qx ox oa gw gc mb m nx L first file ts cls M D l (e :: st) (e :: st) g W):LcS B.heap.size W W e.nb e.no oa m kE []:=by
 obtain ⟨hp,hm⟩:=s.pd e (by simp);have n:=s.nm _ _ _ hm;exact ⟨Nat.le_refl _,fun h=>(by have h1:=n.c1; rw [h,s.c4] at h1; cases h1),n.low,s.c.oa0,Below.refl _ _,n.lt,s.oal,fun b _ _ _=>rfl,fun o _=>rfl,n.fz,s.oc.fz,n.at_,fun p hp=>absurd hp List.not_mem_nil,s.oc.full,fun i _ j _=>rfl⟩
theorem PD {ts:List Int} {a b:Int} (ha:a ∈ ts) (hb:b ∈ ts) (h:iG ts a=iG ts b):a=b:=by
 have h1:=qC ha;have h2:=qC hb;rw [h,h2] at h1;exact (Option.some.inj h1).symm
set_option maxHeartbeats 2000000 in
theorem Pn (Y:EZ y0 L ts) (r:List Br) (hfl:l++e.y :: r=y0.flatB) (s:LS B y0 wx mx fx qx ox oa gw gc mb m nx L first file ts cls M D l (e :: st) (e :: st) g W) {np:Option Addr} {nc:Nat}
  (t:LcS B.heap.size W W' e.nb e.no oa m ⟨e.y.h.k,e.y.h.m,(iI L e.y.h.f.toNat e.y.h.t.toNat).1,(iI L e.y.h.f.toNat e.y.h.t.toNat).2,np,e.y.h.ns.length,nc,e.y.h.ns.map (lY first ts),none,0,0⟩ (e.y.h.ns.mapIdx fun i t=>(iG ts t,wZ L file e.y.h.k e.y.h.ns.length i t)))
  (hr:W'.ownsRow W.heap.size 3 1 (.slice np e.y.h.ns.length nc) e.y.h.ns.length ((e.y.h.ns.map (lY first ts)).map mkI)) (hgW:g < W.heap.size) :
  Half B y0 wx mx fx qx ox oa gw gc mb m nx L first file ts l e st g W'∧W.heap.size≤W'.heap.size∧W'.heap[g]?=W.heap[g]?:=by
 obtain ⟨hp,hm⟩:=s.pd e (by simp);have n:=s.nm _ _ _ hm;have hgn:g≠e.nb:=fun h=>by have h1:=n.c1; rw [← h,s.g0] at h1; cases h1
 have hgo:g≠oa:=fun h=>by have h1:=s.c4; rw [← h,s.g0] at h1; cases h1
 have hmem:e.y ∈ y0.flatB:=by rw [← hfl]; simp
 obtain ⟨cls',hcls'⟩:∃ cls':Nat→Nat,cls'=fun b=>if W.heap.size≤b then 2 else cls b:=⟨_,rfl⟩
 have hold:∀ b,b < W.heap.size→cls' b=cls b:=fun b hb=>by rw [hcls']; exact if_neg (by omega)
 have hnew:∀ b,W.heap.size≤b→cls' b=2:=fun b hb=>by rw [hcls']; exact if_pos hb
 obtain ⟨h1,hh1⟩:∃ h1:Hd,h1=⟨e.y.h.k,e.y.h.m,(iI L e.y.h.f.toNat e.y.h.t.toNat).1,(iI L e.y.h.f.toNat e.y.h.t.toNat).2,np,e.y.h.ns.length,nc,e.y.h.ns.map (lY first ts),none,0,0⟩:=⟨_,rfl⟩
 obtain ⟨M',hM'⟩:∃ M':Nat→Nat→Option Hd,M'=fun b o=>if b=e.nb∧o=e.no then some h1 else M b o:=⟨_,rfl⟩
 have hMs:M' e.nb e.no=some h1:=by rw [hM']; exact if_pos ⟨rfl,rfl⟩
 have Sr:∀ b o,¬ (b=e.nb∧o=e.no)→M' b o=M b o:=fun b o h=>by rw [hM']; exact if_neg h
 have far:∀ b,b < W.heap.size→cls b≠1→cls b≠4→W'.heap[b]?=W.heap[b]?:=fun b hb h1 h4=>t.far b hb (fun e1=>h1 (by rw [e1]; exact n.c1)) (fun e1=>h4 (by rw [e1]; exact s.c4))
 have Vm:NAt B W' cls' e.nb e.no h1:=by
  refine ⟨by rw [hh1]; exact t.node,Nat.lt_of_lt_of_le n.lt t.size,(hold _ n.lt).trans n.c1,n.o6,n.low,t.nfz,?_,?_⟩
  ·obtain ⟨p,c,hv,hin⟩:=xJ hr (by simp)
   injection hv with e1 e2 e3
   subst e1 e3;rw [hh1]; exact hin
  ·rw [hh1]
   rcases Nat.eq_zero_or_pos e.y.h.ns.length with h0 | h0
   ·exact .inl h0
   ·obtain ⟨rb,c,hv,hb1,hb2,_⟩:=iJ hr h0
    injection hv with e1 e2 e3
    exact .inr ⟨rb,e1,hnew rb hb1,hb2⟩
 have Vo:∀ b o h,¬ (b=e.nb∧o=e.no)→M b o=some h→NAt B W' cls' b o h:=fun b o h hne hmm=>by
  have q:=s.nm b o h hmm;have Uj:b≠oa:=fun h=>by have h1:=q.c1; rw [h,s.c4] at h1; cases h1
  have hrow:∀ rb,cls rb=2→rb < W.heap.size→W'.heap[rb]?=W.heap[rb]?:=fun rb h2 h3=>far rb h3 (by rw [h2]; decide) (by rw [h2]; decide)
  refine ⟨?_,Nat.lt_of_lt_of_le q.lt t.size,(hold _ q.lt).trans q.c1,q.o6,q.low,fun j=>?_,?_,q.row.imp id fun ⟨rb,g1,g2,g3⟩=>⟨rb,g1,(hold _ g3).trans g2,Nat.lt_of_lt_of_le g3 t.size⟩⟩
  ·by_cases hb:b=e.nb
   ·subst hb
    have ho:o≠e.no:=fun e1=>hne ⟨rfl,e1⟩
    have h6:=q.o6;have h6':=n.o6;exact q.at_.ext fun j hj=>t.ncell _ (by omega)
   ·exact q.at_.ext fun j _=>World.cell?_of_block (a:=⟨b,_,none⟩) (t.far b q.lt hb Uj)
  ·by_cases hb:b=e.nb
   ·subst hb; exact t.nfz j
   ·exact (Cb (t.far b q.lt hb Uj) j).trans (q.fz j)
  ·refine in_kept q.ins t.size fun a hn hp=>?_
   rcases q.row with h0 | ⟨rb,g1,g2,g3⟩
   ·exact absurd h0 hn
   ·rw [g1] at hp
    obtain rfl:=Option.some.inj hp;exact hrow rb g2 g3
 have OE:∀ e',PAt B W cls e'→PAt B W' cls' e':=fun e' p=>by
  have k:=far e'.lb p.lt (by rw [p.c3]; decide) (by rw [p.c3]; decide);exact ⟨p.good,(hold _ p.lt).trans p.c3,Nat.lt_of_lt_of_le p.lt t.size,(World.cell?_of_block (a:=⟨e'.lb,_,none⟩) k).trans p.p1,(World.cell?_of_block (a:=⟨e'.lb,_,none⟩) k).trans p.p2⟩
 have Su:aS y0.flatB=aS l++(e.y.h.ns++aS r):=by rw [← hfl,dG]; simp [aS]
 have cc:=s.c;have kox:=far ox cc.oxl (by rw [s.c5]; decide) (by rw [s.c5]; decide);refine ⟨⟨cls',M',D,h1,⟨{ cc with hB:=cc.hB.trans t.bel,oxl:=Nat.lt_of_lt_of_le cc.oxl t.size,c5:=(World.cell?_of_block (a:=⟨ox,0,none⟩) kox).trans cc.c5 },fun b hb=>(hold b (Nat.lt_of_lt_of_le hb s.c.hB.size)).trans (s.old b hb),?_,s.gl,(hold _ s.oal).trans s.c4,(hold _ cc.oxl).trans s.c5,Nat.lt_of_lt_of_le s.oal t.size,⟨t.ofz,t.full⟩,fun b o h hmm=>?_,fun e' he'=>?_,s.nd,?_,s.dn,s.root,fun z hz i x hx=>?_⟩,hMs,?_,by rw [hh1],OE e hp⟩,t.size,t.far g hgW hgn hgo⟩
 ·rw [hold g hgW]; exact s.g0
 ·by_cases hb:b=e.nb∧o=e.no
  ·obtain ⟨rfl,rfl⟩:=hb
   rw [hMs] at hmm;rw [← Option.some.inj hmm]; exact Vm
  ·rw [Sr b o hb] at hmm
   exact Vo b o h hb hmm
 ·obtain ⟨p,hz⟩:=s.pd e' (by simp [he'])
  refine ⟨OE e' p,?_⟩
  rw [Sr _ _ (fun h=>?_)]
  ·exact hz
  ·have:=s.nd
   simp only [List.map_cons,List.nodup_cons] at this;exact this.1 (List.mem_map.2 ⟨e',he',by rw [h.1,h.2]⟩)
 ·intro d hd
  obtain ⟨h,h2,h3,h4⟩:=s.dt d hd;refine ⟨h,?_,h3,h4⟩
  rw [Sr _ _ (fun hx=>?_)]
  ·exact h2
  ·rw [hx.1,hx.2,hm] at h2
   have:=Option.some.inj h2
   have hk:=h3.k;rw [← this] at hk;have hk2:(0:Int)=d.1.h.k:=hk
   have:=h3.pos
   omega
 ·rcases List.mem_append.1 hz with hz | hz
  ·have old:=s.occ z hz i x hx
   refine old.ext fun j hj=>t.rest _ (fun v hv=>?_) j hj
   obtain ⟨q,hq,hqe⟩:=List.mem_iff_getElem.1 hv;have h2:(e.y.h.ns.mapIdx fun i t=>(iG ts t,wZ L file e.y.h.k e.y.h.ns.length i t))[q]?=some (iG ts x,v):=by rw [← hqe]; exact List.getElem?_eq_getElem _
   rw [List.getElem?_mapIdx] at h2;obtain ⟨x',hx1,hx2⟩:=Option.map_eq_some_iff.1 h2;have hx3:iG ts x'=iG ts x:=(Prod.mk.inj hx2).1;have m1:x' ∈ e.y.h.ns:=List.mem_of_getElem? hx1;have m2:x ∈ aS l:=List.mem_flatMap.2 ⟨z,hz,List.mem_of_getElem? hx⟩;have i1:=(Y.inn x' (by rw [Su]; simp [m1])).1;have i2:=(Y.inn x (by rw [Su]; simp [m2])).1
   have:=PD i1 i2 hx3
   subst this;have hnd:=Y.nd;rw [Su] at hnd;exact (List.nodup_append.1 hnd).2.2 _ m2 _ (List.mem_append.2 (.inl m1)) rfl
  ·rw [List.mem_singleton.1 hz] at hx ⊢
   refine t.occ (iG ts x,wZ L file e.y.h.k e.y.h.ns.length i x) (List.mem_of_getElem? (i:=i) ?_)
   rw [List.getElem?_mapIdx,hx]; rfl
 ·rw [hh1]; exact ⟨rfl,rfl,rfl,rfl,rfl,(Y.rt _ hmem).2.2.2.2.1⟩
def jb (kkb lk kb:Nat):Nat→Nat→List Br→List LE
 | _,_,[]=>[]
 | kko,i,k :: r=>⟨k,kkb,kko,lk,i * 2,kb,i * 6⟩ :: jb kkb lk kb (kko+6) (i+1) r
theorem qM (kkb lk kb:Nat) (ks:List Br):∀ kko i,(jb kkb lk kb kko i ks).map LE.y=ks:=by
 induction ks with
 | nil=>intro _ _; rfl
 | cons x r ih=>intro kko i; simp only [jb,List.map_cons,ih]
theorem ku (kkb lk kb:Nat) (ks:List Br):∀ kko i j,(jb kkb lk kb kko i ks)[j]?=ks[j]?.map fun k=>(⟨k,kkb,kko+j * 6,lk,(i+j) * 2,kb,(i+j) * 6⟩:LE):=by
 induction ks with
 | nil=>intro kko i j; simp [jb]
 | cons x r ih =>
  intro kko i j
  cases j with
  | zero=>simp [jb]
  | succ j =>
   simp only [jb,List.getElem?_cons_succ,ih];rw [show kko+6+j * 6=kko+(j+1) * 6 by omega,show i+1+j=i+(j+1) by omega]
theorem mO {kkb lk kb kko:Nat} {ks:List Br} {e:LE} (h:e ∈ jb kkb lk kb kko 0 ks):∃ j,∃ hj:j < ks.length,e=⟨ks[j],kkb,kko+j * 6,lk,j * 2,kb,j * 6⟩:=by
 obtain ⟨j,hj⟩:=List.mem_iff_getElem?.1 h;rw [ku] at hj;obtain ⟨k,h1,h2⟩:=Option.map_eq_some_iff.1 hj;obtain ⟨h3,h4⟩:=List.getElem?_eq_some_iff.1 h1;refine ⟨j,h3,?_⟩
 rw [← h2,← h4,Nat.zero_add]
theorem IZ (h:Half B y0 wx mx fx qx ox oa gw gc mb m nx L first file ts l e st g W) (hks:e.y.ks=[]):∃ cls M D,LS B y0 wx mx fx qx ox oa gw gc mb m nx L first file ts cls M D (l++[e.y]) st st g W:=by
 obtain ⟨cls,M,D,h1,s,hM,hno,hkn,hp⟩:=h;refine ⟨cls,M,D++[(e.y,e.nb,e.no)],s.c,s.old,s.g0,s.gl,s.c4,s.c5,s.oal,s.oc,s.nm,s.pd,?_,fun d hd=>?_,fun d hd e' he'=>?_,?_,s.occ⟩
 ·have:=s.nd
  simp only [List.map_cons,List.nodup_cons] at this;exact this.2
 ·rcases List.mem_append.1 hd with hd | hd
  ·obtain ⟨hh,q1,q2,q3⟩:=s.dt d hd
   refine ⟨hh,q1,q2,q3.imp id fun ⟨kb,k1,k2,k3,k4⟩=>⟨kb,k1,k2,k3,fun i k hk=>?_⟩⟩
   rcases k4 i k hk with h5 | ⟨e',he',r1,r2,r3⟩
   ·exact .inl (List.mem_append.2 (.inl h5))
   ·rcases List.mem_cons.1 he' with rfl | he'
    ·exact .inl (List.mem_append.2 (.inr (by rw [← r1,← r2,← r3]; simp)))
    ·exact .inr ⟨e',he',r1,r2,r3⟩
  ·rw [List.mem_singleton.1 hd]
   exact ⟨h1,hM,hno,.inl ⟨hks,hkn⟩⟩
 ·rcases List.mem_append.1 hd with hd | hd
  ·exact s.dn d hd e' (by simp [he'])
  ·rw [List.mem_singleton.1 hd]
   intro hx
   have:=s.nd
   simp only [List.map_cons,List.nodup_cons] at this;exact this.1 (List.mem_map.2 ⟨e',he',by rw [← hx.1,← hx.2]⟩)
 ·rcases s.root with h5 | ⟨e',he',r1,r2,r3⟩
  ·exact .inl (List.mem_append.2 (.inl h5))
  ·rcases List.mem_cons.1 he' with rfl | he'
   ·exact .inl (List.mem_append.2 (.inr (by rw [← r1,← r2,← r3]; simp)))
   ·exact .inr ⟨e',he',r1,r2,r3⟩
theorem IX {h1:Hd} {kb lk kkb kko:Nat} (s:LS B y0 wx mx fx qx ox oa gw gc mb m nx L first file ts cls M D (l++[e.y]) (e :: st) st g W) (hM:M e.nb e.no=some h1) (hno:EH L first ts e.y h1) (hp:PAt B W cls e) (hkp:e.y.h.kp=some ⟨kkb,kko,none⟩) (hks:0 < e.y.ks.length)
  (t:LkS W W' e.nb e.no kb lk kkb kko e.y.ks.length h1) (hgW:g < W.heap.size) :
  (∃ cls M D,LS B y0 wx mx fx qx ox oa gw gc mb m nx L first file ts cls M D (l++[e.y]) (jb kkb lk kb kko 0 e.y.ks++st) (jb kkb lk kb kko 0 e.y.ks++st) g W')∧W.heap.size≤W'.heap.size∧W'.heap[g]?=W.heap[g]?:=by
 have n:=s.nm _ _ _ hM;have hgn:g≠e.nb:=fun h=>by have h1:=n.c1; rw [← h,s.g0] at h1; cases h1
 obtain ⟨cls',hcls'⟩:∃ cls':Nat→Nat,cls'=fun b=>if b=kb then 1 else if b=lk then 3 else cls b:=⟨_,rfl⟩
 have hold:∀ b,b < W.heap.size→cls' b=cls b:=fun b hb=>by
  have:=t.k0
  have:=t.k1
  rw [hcls']
  show (if b=kb then 1 else if b=lk then 3 else cls b)=cls b
  rw [if_neg (by omega),if_neg (by omega)]
 have Yx:cls' kb=1:=by rw [hcls']; exact if_pos rfl
 have Yy:cls' lk=3:=by
  rw [hcls']
  show (if lk=kb then 1 else if lk=lk then 3 else cls lk)=3
  rw [if_neg (fun e=>t.ne e.symm),if_pos rfl]
 obtain ⟨h2,hh2⟩:∃ h2:Hd,h2={ h1 with kp:=some ⟨kb,0,none⟩,kn:=e.y.ks.length,kc:=e.y.ks.length }:=⟨_,rfl⟩
 obtain ⟨M',hM'⟩:∃ M':Nat→Nat→Option Hd,M'=fun b o=>if b=e.nb∧o=e.no then some h2 else if b=kb then (if o % 6=0∧o / 6 < e.y.ks.length then some kE else none) else M b o:=⟨_,rfl⟩
 have Vp:e.nb≠kb:=by have:=n.lt; have:=t.k0; omega
 have hMs:M' e.nb e.no=some h2:=by rw [hM']; exact if_pos ⟨rfl,rfl⟩
 have hMk:∀ i,i < e.y.ks.length→M' kb (i * 6)=some kE:=fun i hi=>by
  rw [hM']
  show (if kb=e.nb∧i * 6=e.no then some h2 else if kb=kb then (if (i * 6) % 6=0∧(i * 6) / 6 < e.y.ks.length then some kE else none) else M kb (i * 6))=some kE
  rw [if_neg (fun h=>Vp h.1.symm),if_pos rfl,if_pos ⟨by omega,by omega⟩]
 have Sr:∀ b o,¬ (b=e.nb∧o=e.no)→b≠kb→M' b o=M b o:=fun b o h1 h2=>by
  rw [hM']
  show (if b=e.nb∧o=e.no then _ else if b=kb then _ else M b o)=M b o
  rw [if_neg h1,if_neg h2]
 have far:∀ b,b < W.heap.size→b≠e.nb→W'.heap[b]?=W.heap[b]?:=fun b hb h=>t.gr.block b hb (fun e1=>h (Option.some.inj e1))
 have farc:∀ b,b < W.heap.size→cls b≠1→W'.heap[b]?=W.heap[b]?:=fun b hb h=>far b hb (fun e1=>h (by rw [e1]; exact n.c1))
 have OG:∀ b o h,M b o=some h→b≠kb:=fun b o h hm=>by have:=(s.nm b o h hm).lt; have:=t.k0; omega
 have hbW:B.heap.size≤W.heap.size:=s.c.hB.size;have hins:∀ h:Hd,InV mkI W h.np h.nn h.nc h.ns→(h.nn=0∨∃ rb,h.np=some ⟨rb,0,none⟩∧cls rb=2∧rb < W.heap.size)→InV mkI W' h.np h.nn h.nc h.ns:=fun h hi hr =>
  in_kept hi t.gr.size fun a hn hp=>by
   rcases hr with h0 | ⟨rb,g1,g2,g3⟩
   ·exact absurd h0 hn
   ·rw [g1] at hp
    obtain rfl:=Option.some.inj hp;exact farc rb g3 (by rw [g2]; decide)
 have hrw:∀ h:Hd,(h.nn=0∨∃ rb,h.np=some ⟨rb,0,none⟩∧cls rb=2∧rb < W.heap.size)→(h.nn=0∨∃ rb,h.np=some ⟨rb,0,none⟩∧cls' rb=2∧rb < W'.heap.size):=fun h hr =>
  hr.imp id fun ⟨rb,g1,g2,g3⟩=>⟨rb,g1,(hold _ g3).trans g2,Nat.lt_of_lt_of_le g3 t.gr.size⟩
 have OE:∀ e',PAt B W cls e'→PAt B W' cls' e':=fun e' p=>by
  have k:=farc e'.lb p.lt (by rw [p.c3]; decide);exact ⟨p.good,(hold _ p.lt).trans p.c3,Nat.lt_of_lt_of_le p.lt t.gr.size,(World.cell?_of_block (a:=⟨e'.lb,_,none⟩) k).trans p.p1,(World.cell?_of_block (a:=⟨e'.lb,_,none⟩) k).trans p.p2⟩
 obtain ⟨_,hki,hall⟩:=(aO _ _).1 hp.good.lies;have kP:∀ j (hj:j < e.y.ks.length),(⟨e.y.ks[j],kkb,kko+j * 6⟩:BA).Good B:=fun j hj=>by
  obtain ⟨hn,h0 | ⟨b,off,hp2,hc,hb,hat⟩⟩:=hki
  ·have hn2:e.y.h.kn=e.y.ks.length:=hn
   have h02:e.y.h.kn=0:=h0
   omega
  ·rw [show e.ba.y.h.kp=e.y.h.kp from rfl,hkp] at hp2
   injection hp2 with e1
   injection e1 with e2 e3
   subst e2 e3;exact ⟨hat j hj,hall _ (List.getElem_mem hj),hb⟩
 have cc:=s.c;have kox:=farc ox cc.oxl (by rw [s.c5]; decide);have koa:=farc oa s.oal (by rw [s.c4]; decide);refine ⟨⟨cls',M',D++[(e.y,e.nb,e.no)],{ cc with hB:=cc.hB.grown t.gr hbW (fun j hj=>by have:=Option.some.inj hj; have:=n.low; omega),oxl:=Nat.lt_of_lt_of_le cc.oxl t.gr.size,c5:=(World.cell?_of_block (a:=⟨ox,0,none⟩) kox).trans cc.c5 },fun b hb=>(hold b (Nat.lt_of_lt_of_le hb s.c.hB.size)).trans (s.old b hb),(hold g hgW).trans s.g0,s.gl,(hold _ s.oal).trans s.c4,(hold _ cc.oxl).trans s.c5,Nat.lt_of_lt_of_le s.oal t.gr.size,⟨fun o=>(Cb koa o).trans (s.oc.fz o),fun i hi=>?_⟩,fun b o h hmm=>?_,fun e' he'=>?_,?_,fun d hd=>?_,fun d hd e' he'=>?_,?_,fun z hz i x hx=>(s.occ z hz i x hx).ext fun j _=>World.cell?_of_block (a:=⟨oa,_,none⟩) koa⟩,t.gr.size,far g hgW hgn⟩
 ·obtain ⟨v,hv⟩:=s.oc.full i hi
  exact ⟨v,hv.ext fun j _=>World.cell?_of_block (a:=⟨oa,_,none⟩) koa⟩
 ·by_cases hb:b=e.nb∧o=e.no
  ·obtain ⟨rfl,rfl⟩:=hb
   rw [hMs] at hmm;rw [← Option.some.inj hmm,hh2];exact ⟨t.node,Nat.lt_of_lt_of_le n.lt t.gr.size,(hold _ n.lt).trans n.c1,n.o6,n.low,t.nfz,hins h1 n.ins n.row,hrw h1 n.row⟩
  ·by_cases hk:b=kb
   ·subst hk
    have:M' b o=(if o % 6=0∧o / 6 < e.y.ks.length then some kE else none):=by
     rw [hM']
     show (if b=e.nb∧o=e.no then _ else if b=b then _ else M b o)=_
     rw [if_neg hb,if_pos rfl]
    rw [this] at hmm
    by_cases ho:o % 6=0∧o / 6 < e.y.ks.length
    ·rw [if_pos ho] at hmm
     rw [← Option.some.inj hmm];have KQ:o=o / 6 * 6:=by omega
     refine ⟨by rw [KQ]; exact t.zero _ ho.2,t.k2,Yx,ho.1,by have:=t.k0; omega,t.kfz,⟨rfl,.inl rfl⟩,.inl rfl⟩
    ·rw [if_neg ho] at hmm; cases hmm
   ·rw [Sr b o hb hk] at hmm
    have q:=s.nm b o h hmm;refine ⟨?_,Nat.lt_of_lt_of_le q.lt t.gr.size,(hold _ q.lt).trans q.c1,q.o6,q.low,fun j=>?_,hins h q.ins q.row,hrw h q.row⟩
    ·by_cases hbb:b=e.nb
     ·subst hbb
      have ho:o≠e.no:=fun e1=>hb ⟨rfl,e1⟩
      have h6:=q.o6;have h6':=n.o6;exact q.at_.ext fun j hj=>t.ncell _ (by omega)
     ·exact q.at_.ext fun j _=>World.cell?_of_block (a:=⟨b,_,none⟩) (far b q.lt hbb)
    ·by_cases hbb:b=e.nb
     ·subst hbb; exact t.nfz j
     ·exact (Cb (far b q.lt hbb) j).trans (q.fz j)
 ·rcases List.mem_append.1 he' with he' | he'
  ·obtain ⟨j,hj,rfl⟩:=mO he'
   obtain ⟨q1,q2⟩:=t.low j hj;exact ⟨⟨kP j hj,Yy,t.k3,q1,q2⟩,hMk j hj⟩
  ·obtain ⟨p,hz⟩:=s.pd e' he'
   refine ⟨OE e' p,?_⟩
   rw [Sr _ _ (fun h=>?_) (OG _ _ _ hz)]
   ·exact hz
   ·have:=s.nd
    simp only [List.map_cons,List.nodup_cons] at this;exact this.1 (List.mem_map.2 ⟨e',he',by rw [h.1,h.2]⟩)
 ·have h3:=s.nd
  simp only [List.map_cons,List.nodup_cons] at h3;rw [List.map_append,List.nodup_append];refine ⟨?_,h3.2,fun a ha b hb hab=>?_⟩
  ·unfold List.Nodup
   rw [List.pairwise_iff_getElem];intro i j hi hj hij heq;have hl:(jb kkb lk kb kko 0 e.y.ks).length=e.y.ks.length:=by
    have:=congrArg List.length (qM kkb lk kb e.y.ks kko 0)
    simpa using this
   have gi:=List.getElem?_eq_getElem hi;have gj:=List.getElem?_eq_getElem hj;rw [← heq] at gj;rw [List.length_map] at hi hj;rw [List.getElem?_map,ku,List.getElem?_eq_getElem (show i < e.y.ks.length by omega)] at gi;rw [List.getElem?_map,ku,List.getElem?_eq_getElem (show j < e.y.ks.length by omega)] at gj;have h9:=gi.trans gj.symm;simp only [Option.map_some,Option.some.injEq,Prod.mk.injEq,true_and] at h9
   omega
  ·subst hab
   obtain ⟨e1,he1,hx1⟩:=List.mem_map.1 ha;obtain ⟨e2,he2,hx2⟩:=List.mem_map.1 hb;obtain ⟨j,hj,rfl⟩:=mO he1
   have:=OG _ _ _ (s.pd e2 he2).2
   rw [← hx1] at hx2;exact this (Prod.mk.inj hx2).1
 ·rcases List.mem_append.1 hd with hd | hd
  ·obtain ⟨hh,q1,q2,q3⟩:=s.dt d hd
   refine ⟨hh,?_,q2,q3.imp id fun ⟨kb',k1,k2,k3,k4⟩=>⟨kb',k1,k2,k3,fun i k hk=>?_⟩⟩
   ·rw [Sr _ _ (s.dn d hd e (by simp)) (OG _ _ _ q1)]; exact q1
   ·rcases k4 i k hk with h5 | ⟨e',he',r1,r2,r3⟩
    ·exact .inl (List.mem_append.2 (.inl h5))
    ·rcases List.mem_cons.1 he' with rfl | he'
     ·exact .inl (List.mem_append.2 (.inr (by rw [← r1,← r2,← r3]; simp)))
     ·exact .inr ⟨e',List.mem_append.2 (.inr he'),r1,r2,r3⟩
  ·rw [List.mem_singleton.1 hd]
   refine ⟨h2,hMs,?_,.inr ⟨kb,by rw [hh2],by rw [hh2],by rw [hh2]; exact Nat.le_refl _,fun i k hk=>.inr ?_⟩⟩
   ·rw [hh2]; exact ⟨hno.k,hno.m,hno.f,hno.t,hno.ns,hno.pos⟩
   ·refine ⟨⟨k,kkb,kko+i * 6,lk,i * 2,kb,i * 6⟩,List.mem_append.2 (.inl ?_),rfl,rfl,rfl⟩
    refine List.mem_of_getElem? (i:=i) ?_
    have hk':e.y.ks[i]?=some k:=hk;rw [ku,hk']
    simp
 ·rcases List.mem_append.1 hd with hd | hd
  ·rcases List.mem_append.1 he' with he' | he'
   ·obtain ⟨j,hj,rfl⟩:=mO he'
    obtain ⟨hh,q1,_⟩:=s.dt d hd;exact fun hx=>OG _ _ _ q1 hx.1
   ·exact s.dn d hd e' (by simp [he'])
  ·rw [List.mem_singleton.1 hd]
   rcases List.mem_append.1 he' with he' | he'
   ·obtain ⟨j,hj,rfl⟩:=mO he'
    exact fun hx=>Vp hx.1
   ·intro hx
    have:=s.nd
    simp only [List.map_cons,List.nodup_cons] at this;exact this.1 (List.mem_map.2 ⟨e',he',by rw [← hx.1,← hx.2]⟩)
 ·rcases s.root with h5 | ⟨e',he',r1,r2,r3⟩
  ·exact .inl (List.mem_append.2 (.inl h5))
  ·rcases List.mem_cons.1 he' with rfl | he'
   ·exact .inl (List.mem_append.2 (.inr (by rw [← r1,← r2,← r3]; simp)))
   ·exact .inr ⟨e',List.mem_append.2 (.inr he'),r1,r2,r3⟩
end
theorem ZC (args:Array Value) (w:World):Sem.run prog (callFunc 86 args) w=.ok (.enter 86 args) w:=aV func86 (by kernel_rfl) (by kernel_rfl) args w
theorem Z4 (args:Array Value) (w:World):Sem.run prog (callFunc 87 args) w=.ok (.enter 87 args) w:=aV func87 (by kernel_rfl) (by kernel_rfl) args w
def szL (e:LE):Nat:=e.y.flatB.length
theorem Tc (l:List LE):szs szL l=(aB (l.map LE.y)).length:=by
 induction l with
 | nil=>rfl
 | cons x r ih=>simp only [szs,List.map_cons,aB,List.length_append,ih,szL]
section
variable {B:World} {y0:Br} {wx mx fx qx ox oa gw gc mb m nx:Nat} {L:List Tok} {first file:Int} {ts:List Int} {cls:Nat→Nat} {M:Nat→Nat→Option Hd} {D:List (Br × Nat × Nat)} {l:List Br} {st:List LE} {g:Nat} {W W':World}
theorem IM (Y:EZ y0 L ts) (hsz:y0.flatB.length≤10000000) (e0:LE) (he0:e0.y=y0) (s0:LS B y0 wx mx fx qx ox oa gw gc mb m nx L first file ts cls M [] [] [e0] [e0] W.heap.size W) :
  Calls prog 85 #[.pointer (some e0.ad),.func (.func 86) #[] #[],.func (.func 87) #[] #[.pointer (some ⟨wx,0,none⟩),.pointer (some ⟨mx,0,none⟩),.pointer (some ⟨fx,0,none⟩),.pointer (some ⟨ox,0,none⟩),.pointer (some ⟨qx,0,none⟩)]] W fun x W' =>
   x=.returned (.bool true)∧∃ g cls M D,LS B y0 wx mx fx qx ox oa gw gc mb m nx L first file ts cls M D y0.flatB [] [] g W':=by
 refine (Js LE.ad szL (fun e=>ig e.y)
  (fun st g w=>∃ cls M D l,LS B y0 wx mx fx qx ox oa gw gc mb m nx L first file ts cls M D l st st g w∧l++aB (st.map LE.y)=y0.flatB)
  (fun e st g w=>∃ l,Half B y0 wx mx fx qx ox oa gw gc mb m nx L first file ts l e st g w∧l++e.y :: (aB e.y.ks++aB (st.map LE.y))=y0.flatB)
  (fun st g w w' g' ⟨cls,M,D,l,h1,h2⟩ h4 h5=>by
   obtain ⟨cls',h6⟩:=h1.stab h4 h5;exact ⟨cls',M,D,l,h6,h2⟩)
  86 87 #[] #[.pointer (some ⟨wx,0,none⟩),.pointer (some ⟨mx,0,none⟩),.pointer (some ⟨fx,0,none⟩),.pointer (some ⟨ox,0,none⟩),.pointer (some ⟨qx,0,none⟩)] ZC Z4 ?_ ?_ e0 W (by unfold szL; rw [he0]; exact hsz) (fun w' hb=>?_)).mono ?_
 ·rintro e st g w ⟨cls,M,D,l,s,hfl⟩ hgl
  have OH:l++e.y :: (aB e.y.ks++aB (st.map LE.y))=y0.flatB:=by
   rw [← hfl,List.map_cons,aB,cZ]; simp
  obtain ⟨hp,hm⟩:=s.pd e (by simp);have n:=s.nm _ _ _ hm;have hmem:e.y ∈ y0.flatB:=by rw [← OH]; simp
  obtain ⟨r1,r2,r3,r4,r5,r6,r7,r8,r9⟩:=Y.rt e.y hmem;have hsub:List.Sublist e.y.h.ns (aS y0.flatB):=by
   rw [← OH,dG]
   have:aS (e.y :: (aB e.y.ks++aB (st.map LE.y)))=e.y.h.ns++aS (aB e.y.ks++aB (st.map LE.y)):=by simp [aS]
   rw [this];exact (List.sublist_append_left _ _).trans (List.sublist_append_right _ _)
  refine (Fh B w wx mx fx qx ox oa gw gc mb m e.nb e.no e.lb e.lo L first file ts s.c e.ba hp.good hp.p1 hp.p2 hp.lt (fun h=>by have h1:=hp.c3; rw [h,n.c1] at h1; cases h1) (fun h=>by have h1:=hp.c3; rw [h,s.c4] at h1; cases h1)
   (fun h=>by have h1:=s.c5; rw [h,n.c1] at h1; cases h1) (MS s) r1 r2 r3 r4 r5 r6 r7 (fun t ht=>Y.inn t (hsub.subset ht)) (Y.nd.sublist hsub) r8).mono ?_
  rintro x w' ⟨rfl,np,nc,h1,h2⟩;obtain ⟨q1,q2,q3⟩:=Pn Y _ OH s h1 h2 hgl;exact ⟨rfl,⟨l,q1,OH⟩,q2,q3⟩
 ·rintro e st g w ⟨l,hh,hfl⟩ hgl
  have hh2:=hh;obtain ⟨cls,M,D,h1,s,hM,hno,hkn,hp⟩:=hh2;have n:=s.nm _ _ _ hM;have hmem:e.y ∈ y0.flatB:=by rw [← hfl]; simp
  obtain ⟨r1,r2,r3,r4,r5,r6,r7,r8,r9⟩:=Y.rt e.y hmem;have hgood:=hp.good.step s.c.hB;obtain ⟨_,hki,hall⟩:=(aO _ _).1 hp.good.lies;have hkl:e.y.h.kn=e.y.ks.length:=hki.1
  rcases Nat.eq_zero_or_pos e.y.ks.length with h0 | h0
  ·refine (EJ e.bb e.bo e.nb e.no e.lb e.lo e.y.h w hp.p1 hp.p2 hgood.at_ (by omega)).mono ?_
   rintro x w' ⟨rfl,rfl⟩;have hks:e.y.ks=[]:=List.length_eq_zero_iff.1 h0;obtain ⟨cls2,M2,D2,s2⟩:=IZ hh hks;refine ⟨none,0,[],rfl,by simp only [szs]; exact ig e.y,.inl rfl,⟨cls2,M2,D2,l++[e.y],s2,?_⟩,Nat.le_refl _,rfl⟩
   rw [← hfl,hks]; simp [aB]
  ·obtain ⟨hn,h00 | ⟨kkb,kko,hkp,hc,hb,hat⟩⟩:=hki
   ·have h02:e.y.h.kn=0:=h00
    omega
   have Vq:e.y.h.kp=some ⟨kkb,kko,none⟩:=hkp;have hc2:e.y.h.kn≤e.y.h.kc:=hc;have hbn:e.bb≠e.nb:=by have h7:e.bb < B.heap.size:=hp.good.lt; have:=n.low; omega
   have hln:e.lb≠e.nb:=fun h=>by have h1:=hp.c3; rw [h,n.c1] at h1; cases h1
   refine (F5 e.bb e.bo e.nb e.no e.lb e.lo kkb kko e.y.ks.length e.y.h h1 w hp.p1 hp.p2 hp.lt hln hgood.at_ hgood.lt hbn hkl h0 r9 (by rw [← hkl]; exact hc2) Vq n.at_ n.lt n.fz).mono ?_
   rintro x w' ⟨kb,lk,rfl,t⟩;obtain ⟨⟨cls2,M2,D2,s2⟩,q2,q3⟩:=IX s hM hno hp Vq h0 t hgl;have hlen:(jb kkb lk kb kko 0 e.y.ks).length=e.y.ks.length:=by
    have:=congrArg List.length (qM kkb lk kb e.y.ks kko 0)
    simpa using this
   refine ⟨some ⟨lk,0,none⟩,e.y.ks.length,jb kkb lk kb kko 0 e.y.ks,by rw [hlen],?_,.inr ⟨lk,0,rfl,by omega,fun i e' he'=>?_⟩,⟨cls2,M2,D2,l++[e.y],s2,?_⟩,q2,q3⟩
   ·rw [Tc,qM,szL,cZ,List.length_cons]
    exact Nat.le_refl _
   ·rw [ku] at he'
    obtain ⟨k,_,rfl⟩:=Option.map_eq_some_iff.1 he'
    simp [LE.ad]
   ·rw [List.map_append,qM,iE,← hfl]; simp
 ·have hbB:Below B.heap.size B w':=s0.c.hB.trans (hb.mono s0.c.hB.size)
  exact ⟨cls,M,[],[],s0.fr ⟨hb.size,fun b hlt _=>hb.block b hlt⟩ hbB s0.g0 s0.gl,by simp [aB,he0]⟩
 ·rintro x w' ⟨rfl,g,cls,M,D,l,h1,h2⟩
  simp only [List.map_nil,aB,List.append_nil] at h2;rw [h2] at h1;exact ⟨rfl,g,cls,M,D,h1⟩
end
mutual
def tK (L:List Tok) (first:Int) (ts:List Int):Br→Pb
 | .mk h ks=>.mk h.k h.m (iI L h.f.toNat h.t.toNat).1 (iI L h.f.toNat h.t.toNat).2 (h.ns.map (lY first ts)) (BI L first ts ks)
def BI (L:List Tok) (first:Int) (ts:List Int):List Br→List Pb
 | []=>[]
 | b :: r=>tK L first ts b :: BI L first ts r
end
theorem xO (L:List Tok) (first:Int) (ts:List Int) (ks:List Br):BI L first ts ks=ks.map (tK L first ts):=by
 induction ks with
 | nil=>rfl
 | cons x r ih=>simp only [BI,List.map_cons,ih]
theorem OW {α β:Type} (l:List α) (P:Nat→α→β→Prop):∀ k:Nat,(∀ i a,l[i]?=some a→∃ b,P (k+i) a b)→∃ bs:List β,bs.length=l.length∧∀ i a b,l[i]?=some a→bs[i]?=some b→P (k+i) a b:=by
 induction l with
 | nil=>intro k h; exact ⟨[],rfl,fun i a b h=>by simp at h⟩
 | cons x r ih =>
  intro k h;obtain ⟨b,hb⟩:=h 0 x (by simp);obtain ⟨bs,hl,hbs⟩:=ih (k+1) (fun i a hi=>by
   obtain ⟨c,hc⟩:=h (i+1) a (by simpa using hi);exact ⟨c,by rw [show k+1+i=k+(i+1) by omega]; exact hc⟩)
  refine ⟨b :: bs,by simp [hl],fun i a c h1 h2=>?_⟩
  cases i with
  | zero =>
   simp only [List.getElem?_cons_zero,Option.some.injEq] at h1 h2;subst h1 h2; exact hb
  | succ i =>
   simp only [List.getElem?_cons_succ] at h1 h2
   have:=hbs i a c h1 h2
   rw [show k+1+i=k+(i+1) by omega] at this;exact this
theorem xY {B W:World} {cls:Nat→Nat} {L:List Tok} {first:Int} {ts:List Int} {M:Nat→Nat→Option Hd} {D:List (Br × Nat × Nat)} (hn:∀ b o h,M b o=some h→NAt B W cls b o h) (hd:QX L first ts M D []) (hold:∀ b,b < B.heap.size→cls b=0) (y:Br):∀ b o,(y,b,o) ∈ D→∃ n:Br,bP W b o n.h∧n.Lies W∧n.pb=tK L first ts y∧n.On fun q=>B.heap.size≤q:=by
 induction y using Br.ind with
 | hP h ks ih =>
  intro b o hm;obtain ⟨hh,q1,q2,q3⟩:=hd _ hm;have q:=hn _ _ _ q1;have e1:hh.k=h.k:=q2.k;have e2:hh.m=h.m:=q2.m;have e3:hh.f=(iI L h.f.toNat h.t.toNat).1:=q2.f;have e4:hh.t=(iI L h.f.toNat h.t.toNat).2:=q2.t;have e5:hh.ns=h.ns.map (lY first ts):=q2.ns;have hrow:∀ a:Addr,hh.nn≠0→hh.np=some a→B.heap.size≤a.block:=fun a h0 hp=>by
   rcases q.row with hz | ⟨rb,g1,g2,g3⟩
   ·exact absurd hz h0
   ·rw [g1] at hp
    obtain rfl:=Option.some.inj hp
    rcases Nat.lt_or_ge rb B.heap.size with hlt | hge
    ·have:=hold rb hlt
     rw [g2] at this; cases this
    ·exact hge
  rcases q3 with ⟨k1,k2⟩ | ⟨kb,k1,k2,k3,k4⟩
  ·have k1':ks=[]:=k1
   refine ⟨.mk hh [],q.at_,(aO _ _).2 ⟨q.ins,⟨k2,.inl k2⟩,fun x hx=>(by cases hx)⟩,?_,(iO _ _).2 ⟨hrow,fun a h0 _=>absurd k2 h0,fun x hx=>(by cases hx)⟩⟩
   subst k1';simp only [Br.pb,pbs,tK,BI,e1,e2,e3,e4,e5]
  ·have k2':hh.kn=ks.length:=k2
   obtain ⟨ns,hl,hns⟩:=OW ks (fun i k (n:Br)=>bP W kb (i * 6) n.h∧n.Lies W∧n.pb=tK L first ts k∧(n.On fun q=>B.heap.size≤q)∧B.heap.size≤kb) 0 (fun i k hk=>by
    have hk2:(Br.mk h ks).ks[i]?=some k:=hk
    rcases k4 i k hk2 with h5 | ⟨e',he',_⟩
    ·rw [Nat.zero_add]
     obtain ⟨n,i1,i2,i3,i4⟩:=ih k (List.mem_of_getElem? hk) kb (i * 6) h5;obtain ⟨h9,j1,_⟩:=hd _ h5;exact ⟨n,i1,i2,i3,i4,(hn _ _ _ j1).low⟩
    ·cases he')
   have hget:∀ i (hi:i < ns.length),bP W kb (i * 6) ns[i].h∧ns[i].Lies W∧ns[i].pb=tK L first ts (ks[i]'(by omega))∧(ns[i].On fun q=>B.heap.size≤q)∧B.heap.size≤kb:=fun i hi=>by
    have:=hns i (ks[i]'(by omega)) ns[i] (List.getElem?_eq_getElem _) (List.getElem?_eq_getElem hi)
    rw [Nat.zero_add] at this;exact this
   refine ⟨.mk hh ns,q.at_,(aO _ _).2 ⟨q.ins,⟨?_,?_⟩,fun x hx=>?_⟩,?_,(iO _ _).2 ⟨hrow,fun a h0 hp=>?_,fun x hx=>?_⟩⟩
   ·show hh.kn=ns.length
    omega
   ·rcases Nat.eq_zero_or_pos hh.kn with h0 | h0
    ·exact .inl h0
    ·refine .inr ⟨kb,0,k1,k3,?_,fun i hi=>?_⟩
     ·have:0 < ns.length:=by omega
      have hx:=(hget 0 this).1.1;unfold World.cell? at hx
      by_cases hlt:kb < W.heap.size
      ·exact hlt
      ·rw [Array.getElem?_eq_none (show W.heap.size≤kb by omega)] at hx; simp at hx
     ·rw [Nat.zero_add]; exact (hget i hi).1
   ·obtain ⟨i,hi,rfl⟩:=List.mem_iff_getElem.1 hx
    exact (hget i hi).2.1
   ·simp only [Br.pb,eF,tK,xO,e1,e2,e3,e4,e5]
    congr 1
    apply List.ext_getElem
    ·simp [hl]
    ·intro i g1 g2
     simp only [List.getElem_map];exact (hget i (by simpa using g1)).2.2.1
   ·have h0':hh.kn≠0:=h0
    have hp':hh.kp=some a:=hp;rw [k1] at hp';obtain rfl:=Option.some.inj hp';exact (hget 0 (by omega)).2.2.2.2
   ·obtain ⟨i,hi,rfl⟩:=List.mem_iff_getElem.1 hx
    exact (hget i hi).2.2.2.1
end Go.Proofs.YtmpmfamiegpmgaaGreatDoor
