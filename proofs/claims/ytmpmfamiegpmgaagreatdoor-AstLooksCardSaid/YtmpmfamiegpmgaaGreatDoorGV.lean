/-
  Kinds of parts: how many names they may have, and of which space each is.; number: each part's names are put into a map, which then has their numbers.; Of which space each name of a part is.; number, whole: of each token that is a name its number.; What becomes of a part's node: its own cells, the row of its names' numbers, and these names' occurrences.
-/
import Derived.Test.YtmpmfamiegpmgaaGreatDoorGT
import Derived.Test.YtmpmfamiegpmgaaGreatDoorGF
import Derived.Maps.OwnSet
import Derived.Maps.OwnOps
import Derived.Maps.RangeWalk
import Derived.Sort.OwnSortedInts
import Derived.BigRegion
namespace Go.Proofs.YtmpmfamiegpmgaaGreatDoor
open Tryz
open Go.Lib (cell_of_heap hid)
open Go.RowKit
set_option maxRecDepth 20000
set_option linter.unusedVariables false
set_option linter.unusedSimpArgs false
theorem um {k:Int} (h1:1≤k) (h2:k≤44):(k=5∨k=39∨k=40∨k=22∨k=6∨k=8∨k=23∨k=9∨k=10∨k=24∨k=11∨k=20∨k=17)∨k=12∨(k=13∨k=16∨k=28∨k=29∨k=42∨k=21)∨k=37∨(k=1∨k=2∨k=3∨k=4∨k=7∨k=14∨k=15∨k=18∨k=19∨k=25∨k=26∨k=27∨k=30∨k=31∨k=32∨k=33∨k=34∨k=35∨k=36∨k=38∨k=41∨k=43∨k=44):=by omega
set_option maxHeartbeats 4000000 in
theorem Pg (k:Int) (n:Nat) (h1:1≤k) (h2:k≤44) (h:kQ k n=true) (w:World):Calls prog 129 #[.int .i64 k,.int .i64 n] w fun e w'=>e=.returned (.bool true)∧w=w':=by
 rcases um h1 h2 with h3 | h3 | h3 | h3 | h3
 ·have hn:n=1:=by rcases h3 with rfl|rfl|rfl|rfl|rfl|rfl|rfl|rfl|rfl|rfl|rfl|rfl|rfl <;> simpa [kQ,jK] using h
  subst hn;clear h h1 h2
  rcases h3 with rfl|rfl|rfl|rfl|rfl|rfl|rfl|rfl|rfl|rfl|rfl|rfl|rfl <;>
  ·go_enter func129,ntmps129
   go_wp2
   go_ret
   exact ⟨rfl,rfl⟩
 ·subst h3
  have hn:n=2:=by simpa [kQ,jK] using h
  subst hn;clear h h1 h2
  go_enter func129,ntmps129
  go_wp2
  go_ret
  exact ⟨rfl,rfl⟩
 ·have hn:n≠0:=by rcases h3 with rfl|rfl|rfl|rfl|rfl|rfl <;> simpa [kQ,jK,jX] using h
  have hp:0 < n:=by omega
  clear h h1 h2 hn
  rcases h3 with rfl|rfl|rfl|rfl|rfl|rfl <;>
  ·go_enter func129,ntmps129
   go_wp2
   go_ret
   exact ⟨by simp [hp],rfl⟩
 ·subst h3
  have hn:n≠0:=by simpa [kQ,jK,jX] using h
  have hp:0 < n:=by omega
  clear h h1 h2 hn
  go_enter func129,ntmps129
  go_wp2
  go_ret
  exact ⟨by simp [hp],rfl⟩
 ·have hn:n=0:=by rcases h3 with rfl|rfl|rfl|rfl|rfl|rfl|rfl|rfl|rfl|rfl|rfl|rfl|rfl|rfl|rfl|rfl|rfl|rfl|rfl|rfl|rfl|rfl|rfl <;> simpa [kQ,jK,jX] using h
  subst hn;clear h h1 h2
  rcases h3 with rfl|rfl|rfl|rfl|rfl|rfl|rfl|rfl|rfl|rfl|rfl|rfl|rfl|rfl|rfl|rfl|rfl|rfl|rfl|rfl|rfl|rfl|rfl <;>
  ·go_enter func129,ntmps129
   go_wp2
   go_ret
   exact ⟨rfl,rfl⟩
theorem last_any (k:Int) (h:k=28∨k=29∨k=42∨k=21) (w:World):Calls prog 130 #[.int .i64 k] w fun e w'=>e=.returned (.int .i64 (yZ k))∧w=w':=by
 rcases h with rfl|rfl|rfl|rfl <;>
 ·go_enter func130,ntmps130
  go_wp2
  go_ret
  exact ⟨rfl,rfl⟩
open Go.RowKit Go.Maps
theorem law3:Keyed prog 3:=int_keyed underlying3
theorem zero3 (w:World):(zeroValue 3).run prog w=.ok (.int .i64 0) w:=by kernel_rfl
def aS (l:List Br):List Int:=l.flatMap fun y=>y.h.ns
theorem dG (a b:List Br):aS (a++b)=aS a++aS b:=by simp [aS]
theorem rq (y:Br):aS [y]=y.h.ns:=by simp [aS]
def wR (w:World) (mb:Nat) (acc:List Int):Prop:=∃ (D:DataW Unit) (n:Nat),w.ownsMap prog 3 (plainElem prog 3) mb n D∧n≤acc.length∧Maps.size D=acc.length∧∀ x:Int,Maps.has D (.int .i64 x)=acc.contains x
theorem wR.lt {w:World} {mb:Nat} {acc:List Int} (h:wR w mb acc):mb < w.heap.size:=by
 obtain ⟨D,n,h1,_⟩:=h;exact h1.lt
theorem wR.kept {w w':World} {mb:Nat} {acc:List Int} {r:Option Nat} (h:wR w mb acc) (hg:w.grownBy w' r) (hne:some mb≠r):wR w' mb acc:=by
 obtain ⟨D,n,h1,h2⟩:=h;exact ⟨D,n,h1.kept hg hne,h2⟩
theorem Jm (w:World):wR (w.alloc (.map #[] 0)) w.heap.size []:=⟨.map [],0,World.ownsMap_made _ _ _ _,by simp,rfl,fun x=>rfl⟩
theorem Ei (x:Int):WideAt.IsKeyLit (.int .i64 x):=by simp [WideAt.IsKeyLit]
theorem MH {w':World} {mb n:Nat} {acc:List Int} {D:DataW Unit} {x:Int} {u:DataW Unit} (ht:Tidy D) (h:w'.ownsMap prog 3 (plainElem prog 3) mb (n+1) (D.put (.int .i64 x) u)) (hn:n≤acc.length) (hs:Maps.size D=acc.length)
  (hh:∀ x:Int,Maps.has D (.int .i64 x)=acc.contains x) (hx:x ∉ acc):wR w' mb (acc++[x]):=by
 refine ⟨_,n+1,h,by simp; omega,?_,fun y=>?_⟩
 ·have:acc.contains x=false:=by simpa using hx
  rw [size_put ht,hh x,this]
  simp [hs]
 ·by_cases hy:y=x
  ·subst hy
   rw [has_put_same ht.isMap (Ei _)]
   simp
  ·rw [has_put_other (by simpa using hy),hh y]
   simp [hy]
structure NA (w0:World) (mb mx fx:Nat) (first:Int) (acc:List Int) (g:Nat) (w:World):Prop where
 below:Below w0.heap.size w0 w
 low:w0.heap.size≤g
 low1:w0.heap.size≤mb
 n1:g≠mb
 n2:g≠mx
 n3:g≠fx
 n4:mx≠mb
 n5:fx≠mb
 l2:mx < w.heap.size
 l3:fx < w.heap.size
 c2:w.cell? ⟨mx,0,none⟩=some (.map (some mb))
 c3:w.cell? ⟨fx,0,none⟩=some (.int .i64 first)
 has:wR w mb acc
theorem NA.stab {w0:World} {mb mx fx:Nat} {first:Int} {acc:List Int} {g:Nat} {w w':World} {g':Nat} (h:NA w0 mb mx fx first acc g w) (hg:w.grownBy w' (some g)) (hg':g'=g∨w.heap.size≤g'):NA w0 mb mx fx first acc g' w':=by
 have hs:=hg.size;have hml:=h.has.lt;have hbs:=h.below.size;have l2:=h.l2;have l3:=h.l3;have e1:g'≠mb:=by rcases hg' with rfl | h1; exact h.n1; omega
 have e2:g'≠mx:=by rcases hg' with rfl | h1; exact h.n2; omega
 have e3:g'≠fx:=by rcases hg' with rfl | h1; exact h.n3; omega
 refine ⟨dE h.below hg h.low,?_,h.low1,e1,e2,e3,h.n4,h.n5,by omega,by omega,?_,?_,h.has.kept hg (fun e=>h.n1 (Option.some.inj e).symm)⟩
 ·rcases hg' with rfl | h1
  ·exact h.low
  ·omega
 ·rw [World.cell?_of_block (hg.block mx h.l2 (fun e=>h.n2 (Option.some.inj e).symm))]; exact h.c2
 ·rw [World.cell?_of_block (hg.block fx h.l3 (fun e=>h.n3 (Option.some.inj e).symm))]; exact h.c3
theorem NA.put {w0:World} {mb mx fx:Nat} {first:Int} {acc acc':List Int} {g:Nat} {w w':World} (h:NA w0 mb mx fx first acc g w) (hg:w.grownBy w' (some mb)) (hh:wR w' mb acc'):NA w0 mb mx fx first acc' g w':=by
 have hs:=hg.size;have l2:=h.l2;have l3:=h.l3;refine ⟨dE h.below hg h.low1,h.low,h.low1,h.n1,h.n2,h.n3,h.n4,h.n5,by omega,by omega,?_,?_,hh⟩
 ·rw [World.cell?_of_block (hg.block mx h.l2 (fun e=>h.n4 (Option.some.inj e)))]; exact h.c2
 ·rw [World.cell?_of_block (hg.block fx h.l3 (fun e=>h.n5 (Option.some.inj e)))]; exact h.c3
theorem NA.step {w0:World} {mb mx fx:Nat} {first:Int} {acc:List Int} {g:Nat} {w w':World} (h:NA w0 mb mx fx first acc g w) (hb:Below w.heap.size w w'):NA w0 mb mx fx first acc g w':=h.stab (grown_below hb _) (.inl rfl)
set_option maxHeartbeats 4000000 in
theorem Dk (w0:World) (mb mx fx:Nat) (first:Int) (hwf:(Lit.int .i64 first).wf=true) (acc:List Int) (e:BA) (g:Nat) (w:World) (hA:NA w0 mb mx fx first acc g w) (hgl:g < w.heap.size) (he:e.Good w)
  (hk1:1≤e.y.h.k) (hk2:e.y.h.k≤44) (hmay:kQ e.y.h.k e.y.h.ns.length=true) (hnd:(acc++e.y.h.ns).Nodup) (hr:∀ x ∈ e.y.h.ns,0≤x∧x≤1000000000) (hln:(acc++e.y.h.ns).length≤10000000) (hel:e.b < w0.heap.size) (he0:e.Good w0) :
  Calls prog 128 #[.pointer (some ⟨e.b,e.o,none⟩),.pointer (some ⟨mx,0,none⟩),.pointer (some ⟨fx,0,none⟩)] w fun x w'=>x=.returned (.bool true)∧NA w0 mb mx fx first (acc++e.y.h.ns) g w'∧w.heap.size≤w'.heap.size∧w'.heap[g]?=w.heap[g]?:=by
 obtain ⟨y,b,o⟩:=e;have HAT:=hid (fun W (hW:Below w0.heap.size w0 W)=>(he0.at_.step he0.lt hW));have HN:=hid ((aO _ _).1 he0.lies).1;obtain ⟨h,ks⟩:=y;obtain ⟨hk,hm,hf,ht,np,nn,nc,ns,kp,kn,kc⟩:=h;rw [show (Br.mk ⟨hk,hm,hf,ht,np,nn,nc,ns,kp,kn,kc⟩ ks).h=⟨hk,hm,hf,ht,np,nn,nc,ns,kp,kn,kc⟩ from rfl] at *;dsimp only at *
 have hnn:nn=ns.length:=HN.out.1;have DI:=hid hnn;have JO:=hid hnd;have HR:=hid hr;have hnl:nn≤10000000:=by simp at hln; omega
 have yF:Hid (acc.length+nn≤10000000):=hid (by simp at hln; omega);have HM:=hid (fun W=>Pg hk nn hk1 hk2 (by rw [hnn]; exact hmay) W);have Hf:=hid hA;clear he he0 hnd hr hln hk1 hk2 hmay hnn;obtain ⟨a0,a1,a2,a3,a4,a5⟩:=HAT.out w hA.below;dsimp only at a0 a1 a2 a3 a4 a5
 clear hA
 go_enter func128,ntmps128
 go_wp2_with fail
 clear a0 a1 a2 a3 a4 a5
 go_loopw [14] (fun iv wr=>∃ i:Nat,i≤nn∧iv=.int .i64 i∧Hid (NA w0 mb mx fx first (acc++ns.take i) g wr)∧w.heap.size≤wr.heap.size∧wr.heap[g]?=w.heap[g]?) (fun iv _=>nn - (intOf iv).toNat)
 case atStart=>exact ⟨0,by omega,rfl,hid (by simpa using Hf.out),Nat.le_refl _,rfl⟩
 case round =>
  obtain ⟨i,hi,rfl,HA,hz,hsame⟩:=hrel;have c2:=HA.out.c2;have c3:=HA.out.c3;have hbw:=HA.out.below;have QJ:=hid hsame
  by_cases hlt:i < nn
  ·obtain ⟨b1,off,rfl,hc1,hb1,nN⟩:=HN.out.2.resolve_left (by omega)
   have hil:i < ns.length:=by rw [← DI.out]; exact hlt
   have q0:wr.cell? ⟨b1,off+i,none⟩=some (.int .i64 ns[i]):=(nN.step hb1 hbw) i hil;obtain ⟨x1,x2⟩:=HR.out ns[i] (List.getElem_mem hil);have r1:(0:Int)≤(i:Int):=by omega
   have r2:(i:Int) < (nn:Int):=by omega
   have htk:ns.take (i+1)=ns.take i++[ns[i]]:=List.take_succ_eq_append_getElem hil;have hnot:ns[i] ∉ acc++ns.take i:=by
    have h2:(acc++ns.take (i+1)).Nodup:=by
     refine JO.out.sublist ?_
     exact List.Sublist.append (List.Sublist.refl _) (List.take_sublist _ _)
    rw [htk,← List.append_assoc] at h2;intro hmem;exact (List.nodup_append.1 h2).2.2 _ hmem _ (by simp) rfl
   have yG:=hid htk;obtain ⟨D,n,hown,hn,hsz,hhas⟩:=HA.out.has;have hl2:(acc++ns.take i).length=acc.length+i:=by simp; omega
   have hn2:n < 20000000:=by have:=yF.out; omega
   clear nN hsame;generalize hxe:ns[i]=x at *;have hmet:Maps.has D (.int .i64 x)=false:=by rw [hhas]; simpa using hnot
   have Ya:=hid hnot;have HT:=hid (hown.tidy law3);have HNl:=hid hn;have tX:=hid hsz;have Hg:=hid hhas;have hkey:keyOf prog 3 (.int .i64 x)=some (.int .i64 x):=keyOf_int_mk underlying3 (WalkArith.wf_i64 (by omega));have HZ:=hid hz;clear hxe htk hnot hn hsz hhas hl2 hz
   go_wp2_with (first
    | (at_lookup; refine wpList_lookup_own_ok_int _ rfl _ _ 146 rfl 3 3 .i64 law3 underlying146 underlying3 (zero3 _) mb n D rfl hown _ _ rfl hkey ?_; intro c hat hwc; rw [hmet])
    | (at_mapUpdate; refine wpList_mapUpdate_own _ rfl _ _ _ 146 rfl 3 3 law3 underlying146 _ mb n _ rfl hown (by unfold maxLen; omega) _ _ _ rfl rfl hkey _ [] (plainElem_int underlying3 hwf) ?_; intro w1 hown1 hgrow1)
    | go_in)
   go_roundw
   case rel =>
    refine ⟨i+1,by omega,by go_num,hid ?_,by have:=hgrow1.size; have:=HZ.out; omega,(hgrow1.block g (by have:=HZ.out; omega) (fun e=>HA.out.n1 (Option.some.inj e))).trans QJ.out⟩
    rw [yG.out,← List.append_assoc];exact HA.out.put hgrow1 (MH HT.out hown1 HNl.out tX.out Hg.out Ya.out)
   case measure=>simp [intOf]; omega
  ·have hin:i=nn:=by omega
   subst hin;obtain ⟨a0,a1,a2,a3,a4,a5⟩:=HAT.out wr hbw;dsimp only at a0 a1 a2 a3 a4 a5
   have U2:Hid (NA w0 mb mx fx first (acc++ns) g wr):=hid (by have:=HA.out; rw [DI.out,List.take_length] at this; exact this);clear HA hbw hsame;have HZ:=hid hz;clear hz
   go_wp2_with fail
   go_quiet (exact Calls.quiet_of_same ((HM.out _).mono fun e w' h=>⟨h.1,h.2.symm⟩))
   go_wp2_with fail
   go_ret
   exact ⟨rfl,U2.out.step (below_drewN (Below.refl _ _) _),HZ.out,QJ.out⟩
set_option maxHeartbeats 4000000 in
theorem Lp (k:Int) (i n:Nat) (h1:1≤k) (h2:k≤44) (h:kQ k n=true) (hi:i < n) (hb:n≤1000000000) (w:World):Calls prog 89 #[.int .i64 k,.int .i64 i,.int .i64 n] w fun e w'=>e=.returned (.tuple #[.int .i64 (jH k i n).1,.bool (jH k i n).2])∧w=w':=by
 rcases um h1 h2 with h3 | h3 | h3 | h3 | h3
 ·have hn:n=1:=by rcases h3 with rfl|rfl|rfl|rfl|rfl|rfl|rfl|rfl|rfl|rfl|rfl|rfl|rfl <;> simpa [kQ,jK] using h
  subst hn;obtain rfl:i=0:=by omega
  clear h h1 h2 hi hb
  rcases h3 with rfl|rfl|rfl|rfl|rfl|rfl|rfl|rfl|rfl|rfl|rfl|rfl|rfl <;>
  ·go_enter func89,ntmps89
   go_wp2
   go_returns
   exact ⟨rfl,rfl⟩
 ·subst h3
  have hn:n=2:=by simpa [kQ,jK] using h
  subst hn;clear h h1 h2 hb
  have:i=0∨i=1:=by omega
  clear hi
  rcases this with rfl | rfl <;>
  ·go_enter func89,ntmps89
   go_wp2
   go_returns
   exact ⟨rfl,rfl⟩
 ·obtain ⟨j,rfl⟩:∃ j,n=j+1:=⟨n - 1,by omega⟩
  have hs1:IntKind.i64.wrap (((j+1:Nat):Int) - 1)=(j:Int):=by rw [show ((j+1:Nat):Int) - 1=(j:Int) by omega]; exact IntWalk.i64_in _ (by omega)
  have hs2:IntKind.i64.wrap ((j:Int)+1 - 1)=(j:Int):=by rw [show (j:Int)+1 - 1=(j:Int) by omega]; exact IntWalk.i64_in _ (by omega)
  clear h h1 h2
  by_cases hij:i=j
  ·subst hij
   have hr:(jH k i (i+1))=(yZ k,false):=by rcases h3 with rfl|rfl|rfl|rfl|rfl|rfl <;> simp [jH,jK,jX]
   rw [hr];clear hr hi
   rcases h3 with rfl|rfl|rfl|rfl|rfl|rfl
   ·go_enter func89,ntmps89
    go_wp2
    go_returns
    exact ⟨rfl,rfl⟩
   ·go_enter func89,ntmps89
    go_wp2
    go_returns
    exact ⟨rfl,rfl⟩
   ·have HL:=hid (last_any 28 (by omega))
    go_enter func89,ntmps89
    go_wp2_with (go_at_call 130; refine (HL.out _).mono ?_; rintro e w1 ⟨rfl,rfl⟩)
    go_returns
    exact ⟨rfl,rfl⟩
   ·have HL:=hid (last_any 29 (by omega))
    go_enter func89,ntmps89
    go_wp2_with (go_at_call 130; refine (HL.out _).mono ?_; rintro e w1 ⟨rfl,rfl⟩)
    go_returns
    exact ⟨rfl,rfl⟩
   ·have HL:=hid (last_any 42 (by omega))
    go_enter func89,ntmps89
    go_wp2_with (go_at_call 130; refine (HL.out _).mono ?_; rintro e w1 ⟨rfl,rfl⟩)
    go_returns
    exact ⟨rfl,rfl⟩
   ·have HL:=hid (last_any 21 (by omega))
    go_enter func89,ntmps89
    go_wp2_with (go_at_call 130; refine (HL.out _).mono ?_; rintro e w1 ⟨rfl,rfl⟩)
    go_returns
    exact ⟨rfl,rfl⟩
  ·have hr:(jH k i (j+1))=(4,false):=by
    have hx:(i == j)=false:=by simpa using hij
    rcases h3 with rfl|rfl|rfl|rfl|rfl|rfl <;> simp [jH,jK,jX,hx]
   have hx:((i:Int) == (j:Int))=false:=by simp; omega
   rw [hr];clear hr hi hij
   rcases h3 with rfl|rfl|rfl|rfl|rfl|rfl <;>
   ·go_enter func89,ntmps89
    go_wp2
    go_returns
    exact ⟨rfl,rfl⟩
 ·subst h3
  have hr:(jH 37 i n)=(1,false):=by simp [jH,jK,jX]
  rw [hr];clear h h1 h2 hr hi hb
  go_enter func89,ntmps89
  go_wp2
  go_returns
  exact ⟨rfl,rfl⟩
 ·have hn:n=0:=by rcases h3 with rfl|rfl|rfl|rfl|rfl|rfl|rfl|rfl|rfl|rfl|rfl|rfl|rfl|rfl|rfl|rfl|rfl|rfl|rfl|rfl|rfl|rfl|rfl <;> simpa [kQ,jK,jX] using h
  omega
open Go.RowKit Go.Maps Go.Sort
def uF (D0:DataW Unit) (left:Lit→Bool) (ss:List Int):Prop:=ss.Nodup∧∀ x:Int,x ∈ ss ↔ (Maps.has D0 (.int .i64 x)=true∧left (.int .i64 x)=false)
theorem uF.start (D0:DataW Unit):uF D0 (Maps.has D0) []:=⟨List.nodup_nil,fun x=>by cases Maps.has D0 (.int .i64 x) <;> simp⟩
theorem uF.step {D0:DataW Unit} {left:Lit→Bool} {ss:List Int} (h:uF D0 left ss) {x:Int} {y:DataW Unit} (hlk:left (.int .i64 x)=true) (hat:∀ zd,D0.atKey (.int .i64 x) zd=y):uF D0 (fun z=>left z && !z.sameKey (.int .i64 x)) (ss++[x]):=by
 have hhas:Maps.has D0 (.int .i64 x)=true:=has_true_of_atKey hat
 have hnew:x ∉ ss:=fun hx=>by have:=((h.2 x).1 hx).2; rw [hlk] at this; cases this
 refine ⟨List.nodup_append.2 ⟨h.1,by simp,fun a ha b hb=>by simp at hb; subst hb; exact fun e=>hnew (e ▸ ha)⟩,fun y=>?_⟩
 by_cases hy:y=x
 ·subst hy; simp [hhas,Lit.sameKey]
 ·simp [h.2 y,hy,Lit.sameKey]
def kL (l:List Int):Prop:=l.Pairwise (· < ·)
theorem zg {ss:List Int} (h:ss.Nodup):kL (ss.mergeSort fun x y=>decide (x≤y)):=by
 have h1:=List.pairwise_mergeSort (le:=fun x y:Int=>decide (x≤y)) (fun a b c h1 h2=>by simp at *; omega) (fun a b=>by simp; omega) ss;have h2:(ss.mergeSort fun x y=>decide (x≤y)).Nodup:=(List.mergeSort_perm ss _).nodup_iff.2 h;unfold kL;unfold List.Nodup at h2;refine (List.Pairwise.and h1 h2).imp ?_
 rintro a b ⟨h3,h4⟩
 have:a≤b:=by simpa using h3
 omega
structure PM (w:World) (mb:Nat) (first:Int) (ts:List Int):Prop where
 ex:∃ (D:DataW Unit) (n:Nat),w.ownsMap prog 3 (plainElem prog 3) mb n D∧Maps.size D=ts.length∧∀ i (h:i < ts.length),D.atKey (.int .i64 ts[i]) (.lit (.int .i64 0))=.lit (.int .i64 (wrap64 (first+(i:Int))))
set_option maxHeartbeats 8000000 in
theorem EY (e0:BA) (first:Int) (hwf:(Lit.int .i64 first).wf=true) (w:World) (hg:e0.Good w) (hsz:e0.y.flatB.length≤10000000)
  (hk:∀ z ∈ e0.y.flatB,1≤z.h.k∧z.h.k≤44∧kQ z.h.k z.h.ns.length=true) (hnd:(aS e0.y.flatB).Nodup) (hr:∀ x ∈ aS e0.y.flatB,0≤x∧x≤1000000000) (hln:(aS e0.y.flatB).length≤10000000) :
  Calls prog 84 #[.pointer (some e0.ad),.int .i64 first] w fun x w'=>∃ mb ts,x=.returned (.tuple #[.map (some mb),.bool true])∧w.heap.size≤mb∧kL ts∧ts.length=(aS e0.y.flatB).length∧(∀ x:Int,x ∈ ts ↔ x ∈ aS e0.y.flatB)∧PM w' mb first ts∧Below w.heap.size w w':=by
 have hmm:=@run_makeMap prog;have hb3:Below w.heap.size w (((w.alloc (.cells #[.int .i64 first] 3)).alloc (.map #[] 0)).alloc (.cells #[.map (some (w.heap.size+1))] 146)) :=
  (((Below.refl w.heap.size w).alloc (Nat.le_refl _) _).alloc (by simp) _).alloc (by simp; omega) _
 have UC:Hid (∀ W,Below (((w.alloc (.cells #[.int .i64 first] 3)).alloc (.map #[] 0)).alloc (.cells #[.map (some (w.heap.size+1))] 146)).heap.size (((w.alloc (.cells #[.int .i64 first] 3)).alloc (.map #[] 0)).alloc (.cells #[.map (some (w.heap.size+1))] 146)) W →
   NA w (w.heap.size+1) (w.heap.size+1+1) w.heap.size first [] (w.heap.size+1+1+1) W):=hid (fun W hW=>by
  have hs:(((w.alloc (.cells #[.int .i64 first] 3)).alloc (.map #[] 0)).alloc (.cells #[.map (some (w.heap.size+1))] 146)).heap.size=w.heap.size+1+1+1:=by simp
  have hbW:=hb3.trans (hW.mono hb3.size);have hWs:=hW.size;refine ⟨hbW,by omega,by omega,by omega,by omega,by omega,by omega,by omega,by omega,by omega,?_,?_,?_⟩
  ·rw [hW.cell (p:=⟨w.heap.size+1+1,0,none⟩) (by show w.heap.size+1+1 < _; omega)]
   have:=heap_alloc_new ((w.alloc (.cells #[.int .i64 first] 3)).alloc (.map #[] 0)) (.cells #[.map (some (w.heap.size+1))] 146)
   simp only [World.size_alloc] at this;exact cell_of_heap this 0
  ·rw [hW.cell (p:=⟨w.heap.size,0,none⟩) (by show w.heap.size < _; omega)]
   have:=heap_alloc_new w (.cells #[.int .i64 first] 3)
   have h2:(((w.alloc (.cells #[.int .i64 first] 3)).alloc (.map #[] 0)).alloc (.cells #[.map (some (w.heap.size+1))] 146)).heap[w.heap.size]?=some (.cells #[.int .i64 first] 3):=by
    rw [heap_alloc_old _ _ (by simp; omega),heap_alloc_old _ _ (by simp)]; exact this
   exact cell_of_heap h2 0
  ·have hm:=Jm (w.alloc (.cells #[.int .i64 first] 3))
   simp only [World.size_alloc] at hm;have h2:wR (((w.alloc (.cells #[.int .i64 first] 3)).alloc (.map #[] 0)).alloc (.cells #[.map (some (w.heap.size+1))] 146)) (w.heap.size+1) []:=hm.kept (World.grownBy_alloc _ _ none) (by simp);exact h2.kept (grown_below hW none) (by simp))
 have hcf:∀ args W,Sem.run prog (callFunc 128 args) W=.ok (.enter 128 args) W:=fun args W=>aV func128 (by kernel_rfl) (by kernel_rfl) args W
 have HP:=hid (vk e0 w (((w.alloc (.cells #[.int .i64 first] 3)).alloc (.map #[] 0)).alloc (.cells #[.map (some (w.heap.size+1))] 146)) hg hsz 128 #[.pointer (some ⟨w.heap.size+1+1,0,none⟩),.pointer (some ⟨w.heap.size,0,none⟩)] hcf
  (fun l g W=>NA w (w.heap.size+1) (w.heap.size+1+1) w.heap.size first (aS l) g W)
  (fun l g W W' g' h1 h2 h3=>h1.stab h2 h3) (fun l g W h=>h.below)
  (fun l e r g W hA hgl he hx=>by
   have hmem:e.y ∈ e0.y.flatB:=by rw [← hx]; simp
   obtain ⟨k1,k2,k3⟩:=hk e.y hmem;have hnm:aS e0.y.flatB=aS l++(e.y.h.ns++aS r):=by rw [← hx,dG]; simp [aS]
   have hsub:List.Sublist (aS l++e.y.h.ns) (aS e0.y.flatB):=by rw [hnm,← List.append_assoc]; exact List.sublist_append_left _ _
   have:=Dk w (w.heap.size+1) (w.heap.size+1+1) w.heap.size first hwf (aS l) e g W hA hgl (he.step hA.below) k1 k2 k3 (hnd.sublist hsub) (fun x hx2=>hr x (by rw [hnm]; simp [hx2])) (Nat.le_trans hsub.length_le hln) he.lt he
   refine this.mono ?_
   rintro x w' ⟨rfl,h1,h2,h3⟩;refine ⟨rfl,?_,h2,h3⟩
   show NA _ _ _ _ _ (aS (l++[e.y])) _ _
   rw [dG,rq]; exact h1)
  (fun W hW=>by
   have h:=UC.out W hW;simp only [World.size_alloc];exact h))
 obtain ⟨all,hall⟩:∃ all,all=aS e0.y.flatB:=⟨_,rfl⟩
 rw [← hall] at hln hr hnd ⊢;have pJ:=hid hall;have Gf:=hid hr;obtain ⟨a0,ha0⟩:∃ a0,a0=e0.ad:=⟨_,rfl⟩
 rw [← ha0] at HP ⊢;have HB3:=hid hb3;obtain ⟨i0,hi0,hy0,hy1,hy2⟩:=info_parts info3;clear UC hcf hb3 hg hsz hk hall ha0 hr
 go_enter func84,ntmps84
 go_wp2_with fail
 refine HP.out.mono ?_
 rintro x W ⟨rfl,g,hA⟩;rw [← pJ.out] at hA;have c2:=hA.c2;have c3:=hA.c3;have hbW:=hA.below;obtain ⟨D,n,hown,hn,Yb,hhas⟩:=hA.has;have U4:=hown.lt;have Yc:=hA.l3;have DI:=hid hn;have Hg:=hid hhas;have sW:=hid hbW;have Yd:Maps.size D=all.length:=Yb;have HSD:=hid Yb;have HX:=hid (fun W' (hW:Below W.heap.size W W')=>(hW.cell (p:=⟨w.heap.size+1+1,0,none⟩) hA.l2).trans c2);have HY:=hid (fun W' r (hW:W.grownBy W' r) (hr:r≠some w.heap.size)=>(World.cell?_of_block (hW.block w.heap.size Yc (fun e=>hr e.symm))).trans c3);have Qq:=hid (fun W' r (hW:W.grownBy W' r) (hr:r≠some (w.heap.size+1+1))=>(World.cell?_of_block (hW.block (w.heap.size+1+1) hA.l2 (fun e=>hr e.symm))).trans c2);obtain ⟨mb,hmb⟩:∃ mb,mb=w.heap.size+1:=⟨_,rfl⟩
 obtain ⟨mx,hmx⟩:∃ mx,mx=w.heap.size+1+1:=⟨_,rfl⟩
 have U5:w.heap.size≤mb:=by omega
 have abE:mx < W.heap.size:=by have:=hA.l2; omega
 have hne1:mx≠mb:=by omega
 have hne2:w.heap.size≠mb:=by omega
 have hwW:=hbW.size;rw [← hmx] at c2 HX Qq ⊢;rw [← hmb] at c2 hown U4 HX Qq;have HG:Hid (w.heap.size≤mb∧mx≠mb∧w.heap.size≠mb):=hid ⟨U5,hne1,hne2⟩;clear HP hA hn Yb hhas hbW HB3 hmx hmb hmm HX;have Xe:Maps.size D≤10000000:=by omega
 have hfl:∀ a b:Nat,a≤10000000→b≤10000000→a+b < 20000001:=fun a b _ _=>by omega
 have Ye:=hid Gf.out;clear Yd
 go_wp2_with (first
  | (at_len; refine wpList_len_own _ rfl _ 146 rfl 3 3 underlying146 _ mb n _ rfl hown ?_)
  | (at_make; refine wpList_make_own _ rfl _ _ 23 rfl W.heap.size 3 i0 (.int .i64 0) 1 underlying23 hi0 hy0 hy1 _ _ _ (Maps.size D) rfl rfl rfl (by rw [hy2]; omega) (by unfold maxLen; omega) (Nat.le_refl _) ?_; intro w1 hrow1 hg1; have c2b:=Qq.out w1 none hg1 (by simp))
  | (at_range; refine wpList_range_own _ rfl _ 146 rfl 3 3 law3 underlying146 _ mb n _ rfl (hown.kept hg1 (by simp)) ?_; intro w0 hrg0 hg0 hs0)
  | go_in)
 go_frame
 go_loopw [8] (fun v wr=>∃ (left:Lit→Bool) (cnt:Nat) (ss:List Int),wr.ranges prog 3 (plainElem prog 3) mb w1.heap.size n D left cnt∧ss.length+cnt≤Maps.size D ∧
   wr.ownsRow W.heap.size 3 1 v ss.length (ss.map (Value.int .i64))∧v≠.slice none 0 0∧uF D left ss∧Below W.heap.size W wr)
  (fun _ wr=>wr.rangeLeft mb w1.heap.size)
 case atStart =>
  exact ⟨_,_,[],hrg0,by simp,hrow1.kept hg0 (Or.inr (by simp [Value.ownBlock])),by simp,uF.start D,
   ((Below.refl _ _).grown hg1 (Nat.le_refl _) (fun j hj=>by cases hj)).grown hg0 hg1.size (fun j hj=>by cases hj)⟩
 case round =>
  obtain ⟨left,cnt,ss,hrg,hcs,hrow,hnn,hC,hnx⟩:=hrel;clear hrg0 hg0 hs0 hrow1
  go_wp2_with (first
   | (at_next; refine wpList_next_ranges_ii _ rfl _ rfl 3 3 .i64 .i64 law3 underlying3 underlying3 mb w1.heap.size n _ _ _ rfl hrg ?_ ?_)
   | go_in)
  ·intro hc0 hl0
   rcases hrow.2 with ⟨hnil,_⟩ | ⟨g,cap,cur,rfl,hbase,hb,h1,h2,h3,h4⟩
   ·exact absurd hnil hnn
   have hH:Holds (Value.int .i64) wr g 0 ss.toArray:=holds_of_blockI hb (by simpa using h4);have hgl:g < wr.heap.size:=(Array.getElem?_eq_some_iff.1 hb).1;have HC:=hid (slices_Sort_int g 0 cap ss wr hH hgl (by omega));obtain ⟨ts,hts⟩:∃ ts,ts=ss.mergeSort fun x y=>decide (x≤y):=⟨_,rfl⟩
   have hrise:kL ts:=by rw [hts]; exact zg hC.1
   have hmem:∀ x:Int,x ∈ ts ↔ x ∈ all:=fun x=>by
    rw [hts,(List.mergeSort_perm ss _).mem_iff,hC.2 x,hl0,Hg.out]; simp
   have htl:ts.length=ss.length:=by rw [hts]; simp
   have U6:ss.length=all.length:=by
    have hp:ss.Perm all:=(List.perm_ext_iff_of_nodup hC.1 hnd).2 (fun x=>by rw [hC.2 x,hl0,Hg.out]; simp);exact hp.length_eq
   have HRS:=hid hrise;have KO:=hid hmem;have KI:Hid (ts.length=all.length):=hid (by omega);have HOWN:=hid hrg.owns;have abH:mb < wr.heap.size:=hrg.owns.lt;have HRW:=hid (fun W2 nn os (hW2:W2=grow (putRow (Value.int .i64) (Sort.ahead wr nn) g 0 ts.toArray) os)=>by
    have h8:W2.ownsRow W.heap.size 3 1 (.slice (some ⟨g,0,none⟩) ss.length cap) ss.length (ts.map (Value.int .i64))∧wr.grownBy W2 (some g):=by
     rw [hW2]; exact ⟨ownsRow_sortedI htl hbase hb h1 h2 h3,grownBy_sortedI _⟩
    exact h8)
   have Oe:=hid hnx;have HC2:Hid (Calls prog 67 #[.slice (some ⟨g,0,none⟩) ss.length cap] wr fun e w'=>e=.returned (.tuple #[])∧∃ n os,w'=grow (putRow (Value.int .i64) (Sort.ahead wr n) g 0 ts.toArray) os):=hid (by rw [hts]; exact HC.out);have hgW:W.heap.size≤g:=hbase;obtain ⟨L,hL⟩:∃ L,L=ss.length:=⟨_,rfl⟩
   have HL:Hid (ts.length=L):=hid (by omega);have hL9:L≤10000000:=by omega
   rw [← hL] at HRW HC2 h1 ⊢;clear HC hH hts hC hrise hmem htl U6 hrow hnx hb h3 h4 hnn hrg hl0 hcs hL hc0
   go_wp2_with (go_at_call 67; refine HC2.out.mono ?_; rintro e W2 ⟨rfl,nn,os,hW2⟩; obtain ⟨Oy,nI⟩:=HRW.out W2 nn os hW2; clear hW2)
   have HRO:=hid Oy;have qj:=hid nI;have hsz2:=nI.size;have hown2:=HOWN.out.kept nI (fun e=>by have:=Option.some.inj e; omega);have HI0:Hid (∃ (D':DataW Unit) (n':Nat),W2.ownsMap prog 3 (plainElem prog 3) mb n' D'∧n'≤n+0∧Maps.size D'=Maps.size D∧(∀ x:Int,Maps.has D' (.int .i64 x)=Maps.has D (.int .i64 x))∧∀ j (h:j < ts.length),j < 0→D'.atKey (.int .i64 ts[j]) (.lit (.int .i64 0))=.lit (.int .i64 (wrap64 (first+(j:Int))))) :=
    hid ⟨D,n,hown2,by omega,rfl,fun x=>rfl,fun j h hj=>absurd hj (Nat.not_lt_zero j)⟩
   have Yf:=hid (fun W3 (h:W2.grownBy W3 (some mb))=>by
    have hb1:W.grownBy W3 (some mb):=by
     have:=Oe.out.grown nI Oe.out.size (fun j hj=>by cases hj; exact hgW)
     exact ae (grown_below this _) h
    have q1:=Qq.out W3 (some mb) hb1 (fun e=>HG.out.2.1 (Option.some.inj e).symm);have q2:=HY.out W3 (some mb) hb1 (fun e=>HG.out.2.2 (Option.some.inj e).symm);have q3:=World.ownsRow.kept Oy h (Or.inr (fun e=>by have:=(World.ownsRow.lt Oy _ e).1; omega));exact (⟨q1,q2,q3⟩:W3.cell? ⟨mx,0,none⟩=some (.map (some mb))∧W3.cell? ⟨w.heap.size,0,none⟩=some (.int .i64 first)∧W3.ownsRow W.heap.size 3 1 (.slice (some ⟨g,0,none⟩) L cap) L (ts.map (Value.int .i64))))
   have HBF:=hid (fun W3 (h:W2.grownBy W3 (some mb))=>by
    have hb1:Below w.heap.size w W2:=sW.out.trans ((Oe.out.grown nI Oe.out.size (fun j hj=>by cases hj; exact hgW)).mono hwW);exact dE hb1 h U5)
   clear Oy nI hown2 c2b hown c2 c3
   go_wp2_with fail
   go_loopw [35] (fun iv wr=>∃ i:Nat,i≤L∧iv=.int .i64 i∧Hid (∃ (D':DataW Unit) (n':Nat),wr.ownsMap prog 3 (plainElem prog 3) mb n' D'∧n'≤n+i∧Maps.size D'=Maps.size D∧(∀ x:Int,Maps.has D' (.int .i64 x)=Maps.has D (.int .i64 x))∧∀ j (h:j < ts.length),j < i→D'.atKey (.int .i64 ts[j]) (.lit (.int .i64 0))=.lit (.int .i64 (wrap64 (first+(j:Int)))))∧Hid (W2.grownBy wr (some mb))) (fun iv _=>L - (intOf iv).toNat)
   case atStart=>exact ⟨0,by omega,rfl,HI0,hid (dU _ _)⟩
   case round =>
    obtain ⟨i,hi,rfl,HI,UR⟩:=hrel;obtain ⟨q1,q2,q3⟩:=Yf.out _ UR.out
    by_cases hlt:i < L
    ·have hil:i < ts.length:=by rw [HL.out]; exact hlt
     obtain ⟨x,hx⟩:∃ x,ts[i]?=some x:=⟨_,List.getElem?_eq_getElem hil⟩
     have q0:=fQ q3 i (.int .i64 x) (by simp [hx]);obtain ⟨D',n',hown',hn',hs',hh',hat'⟩:=HI.out;have hxr:=Ye.out x ((KO.out _).1 (List.mem_of_getElem? hx));have r1:(0:Int)≤(i:Int):=by omega
     have r2:(i:Int) < (L:Int):=by omega
     have UM:=hid hil;have Xf:=hid hx;have hkey:keyOf prog 3 (.int .i64 x)=some (.int .i64 x):=keyOf_int_mk underlying3 (WalkArith.wf_i64 (by omega));have Xg:=DI.out;have hn'':n' < 30000000:=by omega
     have HT:=hid (hown'.tidy law3);have HH':=hid hh';have HS':=hid hs';have HN':=hid hn';have HAT':=hid hat';clear hil hx hh' hs' hn' hat' q3 hxr HI
     go_wp2_with (first
      | (at_mapUpdate; refine wpList_mapUpdate_own _ rfl _ _ _ 146 rfl 3 3 law3 underlying146 _ mb n' _ rfl hown' (by unfold maxLen; omega) _ _ _ rfl rfl hkey _ [] (plainElem_int underlying3 (wrap64_wf _)) ?_; intro w5 hown5 jT)
      | go_in)
     go_roundw
     case rel =>
      refine ⟨i+1,by omega,by go_num,hid ⟨_,n'+1,hown5,by have:=HN'.out; omega,?_,fun z=>?_,fun j hj hji=>?_⟩,hid (ae UR.out jT)⟩
      ·rw [size_put HT.out,HH'.out,Hg.out]
       have:x ∈ all:=by rw [← KO.out]; exact List.mem_of_getElem? Xf.out
       simp [this,HS'.out]
      ·by_cases hz:z=x
       ·subst hz
        rw [has_put_same HT.out.isMap (Ei _),Hg.out]
        have:z ∈ all:=by rw [← KO.out]; exact List.mem_of_getElem? Xf.out
        simp [this]
       ·rw [has_put_other (by simpa using hz)]; exact HH'.out z
      ·by_cases Yg:j=i
       ·subst Yg
        have e:ts[j]=x:=by have:=Xf.out; rw [List.getElem?_eq_getElem hj] at this; exact Option.some.inj this
        exact (congrArg (fun q=>(D'.put (.int .i64 x) (.lit (.int .i64 (wrap64 (first+(j:Int)))))).atKey (.int .i64 q) (.lit (.int .i64 0))) e).trans (atKey_put_same HT.out.isMap (Ei _) _ _)
       ·have hne:ts[j]≠x:=by
         have e:ts[i]'UM.out=x:=by have:=Xf.out; rw [List.getElem?_eq_getElem UM.out] at this; exact Option.some.inj this
         rw [← e]
         have:=(List.pairwise_iff_getElem.1 HRS.out) j i hj UM.out (by omega)
         omega
        exact (atKey_put_other (fun e=>hne (by simpa using e)) _ _).trans (HAT'.out j hj (by omega))
     case measure=>simp [intOf]; omega
    ·have hiL:i=L:=by omega
     subst hiL;clear q3
     go_wp2_with fail
     go_returns
     obtain ⟨D',n',hown',hn',hs',hh',hat'⟩:=HI.out;exact ⟨mb,ts,rfl,HG.out.1,HRS.out,KI.out,KO.out,⟨D',n',hown',by rw [hs',HSD.out]; exact KI.out.symm,fun j hj=>hat' j hj (by rw [← HL.out]; exact hj)⟩,HBF.out _ UR.out⟩
  ·intro x c w2 cnt2 hwx hwc hlx hat hrg2 hlt hg2 hs2 hen
   have hrow2:=hrow.kept hg2 (Or.inr (row_ne_iter hrow hrg).symm);clear hs2
   go_wp2_with (first
    | (at_builtin; refine wpList_append_own _ rfl _ _ 23 rfl W.heap.size 3 i0 (.int .i64 0) 1 8 underlying23 hi0 hy0 hy1 hy2 rfl (by decide) _ _ _ rfl (hrow2.alloc _) ⟨w2.heap.size,0,none⟩ 1 1 [.int .i64 x] rfl rfl (cell_one_new _ _ _) (by simp [Value.oneCell']) (by unfold maxLen at *; omega) (by omega) (by have:=hnx.size; have:=hg2.size; simp; omega) ?_; intro v' w3 hown' hg3 hnil3; go_frame)
    | go_in)
   have hrg3:=(hrg2.alloc _).kept hg3 (row_ne_low hrow2 U4) (row_ne_iter hrow2 hrg2)
   go_roundw
   case rel =>
    refine ⟨_,cnt2,ss++[x],hrg3,by simp; omega,by simpa using hown',fun hv'=>by have:=(hnil3.1 hv').2; omega,hC.step hlx hat,?_⟩
    exact ((hnx.grown hg2 hnx.size (fun j hj=>by cases hj; exact hg1.size)).alloc (by have:=hnx.size; have:=hg2.size; omega) _).grown hg3 (by have:=hnx.size; have:=hg2.size; simp; omega) (fun j hj=>(hrow2.lt j hj).1)
   case measure=>rw [hrg3.left_eq,hrg.left_eq]; exact hlt
theorem aZ {w:World} {a b:Addr} {v:Value} (h:a≠b):(w.setCell a v).cell? b=w.cell? b:=World.cell?_setCell_other _ _ _ _ h
theorem kS {w:World} {a:Addr} {u v:Value} (h:w.cell? a=some u):(w.setCell a v).cell? a=some v:=World.cell?_setCell_same _ _ _ h
structure oZ where
 file:Int
 at_:Int
 end_:Int
 sp:Int
 decl:Bool
def oZ.cells (v:oZ):List Value:=[.int .i64 v.file,.int .i64 v.at_,.int .i64 v.end_,.int .i64 v.sp,.bool v.decl]
def gq (w:World) (b o:Nat) (v:oZ):Prop:=w.cell? ⟨b,o,none⟩=some (.int .i64 v.file)∧w.cell? ⟨b,o+1,none⟩=some (.int .i64 v.at_)∧w.cell? ⟨b,o+2,none⟩=some (.int .i64 v.end_)∧w.cell? ⟨b,o+3,none⟩=some (.int .i64 v.sp)∧w.cell? ⟨b,o+4,none⟩=some (.bool v.decl)
theorem gq.ext {w w':World} {b o:Nat} {v:oZ} (h:gq w b o v) (he:∀ j,j < 5→w'.cell? ⟨b,o+j,none⟩=w.cell? ⟨b,o+j,none⟩):gq w' b o v :=
 ⟨(he 0 (by omega)).trans h.1,(he 1 (by omega)).trans h.2.1,(he 2 (by omega)).trans h.2.2.1,(he 3 (by omega)).trans h.2.2.2.1,(he 4 (by omega)).trans h.2.2.2.2⟩
theorem bP.ext {w w':World} {b o:Nat} {h:Hd} (hb:bP w b o h) (he:∀ j,j < 6→w'.cell? ⟨b,o+j,none⟩=w.cell? ⟨b,o+j,none⟩):bP w' b o h :=
 ⟨(he 0 (by omega)).trans hb.1,(he 1 (by omega)).trans hb.2.1,(he 2 (by omega)).trans hb.2.2.1,(he 3 (by omega)).trans hb.2.2.2.1,(he 4 (by omega)).trans hb.2.2.2.2.1,(he 5 (by omega)).trans hb.2.2.2.2.2⟩
structure LcS (K:Nat) (W0 W:World) (nb no oa m:Nat) (h:Hd) (wr:List (Nat × oZ)):Prop where
 size:W0.heap.size≤W.heap.size
 ne:nb≠oa
 k1:K≤nb
 k2:K≤oa
 bel:Below K W0 W
 l1:nb < W0.heap.size
 l2:oa < W0.heap.size
 far:∀ b,b < W0.heap.size→b≠nb→b≠oa→W.heap[b]?=W0.heap[b]?
 ncell:∀ o,(o < no∨no+6≤o)→W.cell? ⟨nb,o,none⟩=W0.cell? ⟨nb,o,none⟩
 nfz:∀ o,W.frozen? ⟨nb,o,none⟩=false
 ofz:∀ o,W.frozen? ⟨oa,o,none⟩=false
 node:bP W nb no h
 occ:∀ p ∈ wr,gq W oa (p.1 * 5) p.2
 full:∀ i,i < m→∃ v,gq W oa (i * 5) v
 rest:∀ i,(∀ v,(i,v) ∉ wr)→∀ j,j < 5→W.cell? ⟨oa,i * 5+j,none⟩=W0.cell? ⟨oa,i * 5+j,none⟩
section
variable {K:Nat} {W0 W W':World} {nb no oa m:Nat} {h:Hd} {wr:List (Nat × oZ)}
theorem LcS.step (s:LcS K W0 W nb no oa m h wr) (hb:Below W.heap.size W W'):LcS K W0 W' nb no oa m h wr:=by
 have z:=s.size;have n1:nb < W.heap.size:=Nat.lt_of_lt_of_le s.l1 z;have n2:oa < W.heap.size:=Nat.lt_of_lt_of_le s.l2 z;have k1:=hb.block nb n1;have k2:=hb.block oa n2;have e1:∀ o,W'.cell? ⟨nb,o,none⟩=W.cell? ⟨nb,o,none⟩:=fun o=>World.cell?_of_block k1
 have e2:∀ o,W'.cell? ⟨oa,o,none⟩=W.cell? ⟨oa,o,none⟩:=fun o=>World.cell?_of_block k2
 refine ⟨Nat.le_trans z hb.size,s.ne,s.k1,s.k2,s.bel.trans (hb.mono (by have:=s.k1; omega)),s.l1,s.l2,fun b h1 h2 h3=>(hb.block b (by omega)).trans (s.far b h1 h2 h3),fun o ho=>(e1 o).trans (s.ncell o ho),fun o=>?_,fun o=>?_,s.node.ext fun j _=>e1 _,
  fun p hp=>(s.occ p hp).ext fun j _=>e2 _,fun i hi=>?_,fun i hi j hj=>(e2 _).trans (s.rest i hi j hj)⟩
 ·have:=s.nfz o
  simp only [World.frozen?] at this ⊢;rw [k1]; exact this
 ·have:=s.ofz o
  simp only [World.frozen?] at this ⊢;rw [k2]; exact this
 ·obtain ⟨v,hv⟩:=s.full i hi
  exact ⟨v,hv.ext fun j _=>e2 _⟩
theorem addr_ne {b o o':Nat} (h:o≠o'):(⟨b,o,none⟩:Addr)≠⟨b,o',none⟩:=fun e=>h (by injection e)
theorem PY {b b' o o':Nat} (h:b≠b'):(⟨b,o,none⟩:Addr)≠⟨b',o',none⟩:=fun e=>h (by injection e)
theorem Qi {w:World} {base E size n b o:Nat} {v u:Value} {xs:List Value} (h:w.ownsRow base E size v n xs) (hb:b < base):(w.setCell ⟨b,o,none⟩ u).ownsRow base E size v n xs :=
 h.kept (aN b o u) (Or.inr (fun e=>by have:=(h.lt _ e).1; omega))
theorem LcS.nodeSet (s:LcS K W0 W nb no oa m h wr) (j:Nat) (hj:j < 6) (u:Value) (h':Hd) (hn:bP (W.setCell ⟨nb,no+j,none⟩ u) nb no h') :
  LcS K W0 (W.setCell ⟨nb,no+j,none⟩ u) nb no oa m h' wr:=by
 have e2:∀ o,(W.setCell ⟨nb,no+j,none⟩ u).cell? ⟨oa,o,none⟩=W.cell? ⟨oa,o,none⟩:=fun o=>aZ (PY s.ne)
 have hg:=aN (w:=W) nb (no+j) u;refine ⟨Nat.le_trans s.size hg.size,s.ne,s.k1,s.k2,s.bel.grown hg (by have:=s.size; have:=s.k1; have:=s.l1; omega) (fun j hj=>by have:=Option.some.inj hj; have:=s.k1; omega),s.l1,s.l2,fun b h1 h2 h3=>(hg.block b (by have:=s.size; omega) (fun e=>h2 (Option.some.inj e))).trans (s.far b h1 h2 h3),
  fun o ho=>(aZ (addr_ne (by omega))).trans (s.ncell o ho),fun o=>by rw [World.frozen?_setCell]; exact s.nfz o,fun o=>by rw [World.frozen?_setCell]; exact s.ofz o,hn,
  fun p hp=>(s.occ p hp).ext fun j _=>e2 _,fun i hi=>?_,fun i hi j hj=>(e2 _).trans (s.rest i hi j hj)⟩
 obtain ⟨v,hv⟩:=s.full i hi;exact ⟨v,hv.ext fun j _=>e2 _⟩
theorem LcS.set0 (s:LcS K W0 W nb no oa m h wr) (x:Int):LcS K W0 (W.setCell ⟨nb,no,none⟩ (.int .i64 x)) nb no oa m { h with k:=x } wr :=
 s.nodeSet 0 (by omega) _ _ ⟨kS s.node.1,(aZ (addr_ne (by omega))).trans s.node.2.1,(aZ (addr_ne (by omega))).trans s.node.2.2.1,(aZ (addr_ne (by omega))).trans s.node.2.2.2.1,
  (aZ (addr_ne (by omega))).trans s.node.2.2.2.2.1,(aZ (addr_ne (by omega))).trans s.node.2.2.2.2.2⟩
theorem LcS.set1 (s:LcS K W0 W nb no oa m h wr) (x:Int):LcS K W0 (W.setCell ⟨nb,no+1,none⟩ (.int .i64 x)) nb no oa m { h with m:=x } wr :=
 s.nodeSet 1 (by omega) _ _ ⟨(aZ (addr_ne (by omega))).trans s.node.1,kS s.node.2.1,(aZ (addr_ne (by omega))).trans s.node.2.2.1,(aZ (addr_ne (by omega))).trans s.node.2.2.2.1,
  (aZ (addr_ne (by omega))).trans s.node.2.2.2.2.1,(aZ (addr_ne (by omega))).trans s.node.2.2.2.2.2⟩
theorem LcS.set2 (s:LcS K W0 W nb no oa m h wr) (x:Int):LcS K W0 (W.setCell ⟨nb,no+2,none⟩ (.int .i64 x)) nb no oa m { h with f:=x } wr :=
 s.nodeSet 2 (by omega) _ _ ⟨(aZ (addr_ne (by omega))).trans s.node.1,(aZ (addr_ne (by omega))).trans s.node.2.1,kS s.node.2.2.1,(aZ (addr_ne (by omega))).trans s.node.2.2.2.1,
  (aZ (addr_ne (by omega))).trans s.node.2.2.2.2.1,(aZ (addr_ne (by omega))).trans s.node.2.2.2.2.2⟩
theorem LcS.set3 (s:LcS K W0 W nb no oa m h wr) (x:Int):LcS K W0 (W.setCell ⟨nb,no+3,none⟩ (.int .i64 x)) nb no oa m { h with t:=x } wr :=
 s.nodeSet 3 (by omega) _ _ ⟨(aZ (addr_ne (by omega))).trans s.node.1,(aZ (addr_ne (by omega))).trans s.node.2.1,(aZ (addr_ne (by omega))).trans s.node.2.2.1,kS s.node.2.2.2.1,
  (aZ (addr_ne (by omega))).trans s.node.2.2.2.2.1,(aZ (addr_ne (by omega))).trans s.node.2.2.2.2.2⟩
theorem LcS.set4 (s:LcS K W0 W nb no oa m h wr) (np:Option Addr) (nn nc:Nat) (ns:List Int):LcS K W0 (W.setCell ⟨nb,no+4,none⟩ (.slice np nn nc)) nb no oa m { h with np:=np,nn:=nn,nc:=nc,ns:=ns } wr :=
 s.nodeSet 4 (by omega) _ _ ⟨(aZ (addr_ne (by omega))).trans s.node.1,(aZ (addr_ne (by omega))).trans s.node.2.1,(aZ (addr_ne (by omega))).trans s.node.2.2.1,(aZ (addr_ne (by omega))).trans s.node.2.2.2.1,
  kS s.node.2.2.2.2.1,(aZ (addr_ne (by omega))).trans s.node.2.2.2.2.2⟩
theorem LcS.grow (s:LcS K W0 W nb no oa m h wr) {r:Option Nat} (hg:W.grownBy W' r) (hr:∀ q,r=some q→W0.heap.size≤q):LcS K W0 W' nb no oa m h wr:=by
 have z:=s.size;have k:∀ b,b < W0.heap.size→W'.heap[b]?=W.heap[b]?:=fun b hb=>hg.block b (by omega) (fun e=>by have:=hr b e.symm; omega)
 have k1:=k nb s.l1;have k2:=k oa s.l2;have e1:∀ o,W'.cell? ⟨nb,o,none⟩=W.cell? ⟨nb,o,none⟩:=fun o=>World.cell?_of_block k1
 have e2:∀ o,W'.cell? ⟨oa,o,none⟩=W.cell? ⟨oa,o,none⟩:=fun o=>World.cell?_of_block k2
 refine ⟨Nat.le_trans z hg.size,s.ne,s.k1,s.k2,s.bel.grown hg (by have:=s.k1; have:=s.l1; omega) (fun j hj=>by have:=hr j hj; have:=s.k1; have:=s.l1; omega),s.l1,s.l2,fun b h1 h2 h3=>(k b h1).trans (s.far b h1 h2 h3),fun o ho=>(e1 o).trans (s.ncell o ho),fun o=>?_,fun o=>?_,s.node.ext fun j _=>e1 _,
  fun p hp=>(s.occ p hp).ext fun j _=>e2 _,fun i hi=>?_,fun i hi j hj=>(e2 _).trans (s.rest i hi j hj)⟩
 ·have:=s.nfz o
  simp only [World.frozen?] at this ⊢;rw [k1]; exact this
 ·have:=s.ofz o
  simp only [World.frozen?] at this ⊢;rw [k2]; exact this
 ·obtain ⟨v,hv⟩:=s.full i hi
  exact ⟨v,hv.ext fun j _=>e2 _⟩
theorem jZ (b:Nat):∀ (vs:List Value) (o:Nat) (w:World),w.grownBy (w.setCells b o vs) (some b)
 | [],o,w=>dU _ _
 | v :: vs,o,w=>ae (aN b o v) (jZ b vs (o+1) _)
theorem LcS.setOcc (s:LcS K W0 W nb no oa m h wr) (i:Nat) (hi:i < m) (v:oZ) (hv:∀ u,(i,u) ∉ wr):LcS K W0 (W.setCells oa (i * 5) v.cells) nb no oa m h (wr++[(i,v)]):=by
 have e1:∀ o,(W.setCells oa (i * 5) v.cells).cell? ⟨nb,o,none⟩=W.cell? ⟨nb,o,none⟩:=fun o=>World.cell?_setCells_out _ _ _ _ _ (fun e=>absurd e s.ne)
 have hg:=jZ oa v.cells (i * 5) W;have k:∀ b,b < W.heap.size→b≠oa→(W.setCells oa (i * 5) v.cells).heap[b]?=W.heap[b]?:=fun b hb hne=>hg.block b hb (fun e=>hne (Option.some.inj e))
 obtain ⟨v0,hv0⟩:=s.full i hi;have hin:=World.cell?_setCells_in oa v.cells (i * 5) W (fun j hj=>by
  have hj5:j < 5:=hj
  match j,hj5 with
  | 0,_=>rw [Nat.add_zero,hv0.1]; rfl
  | 1,_=>rw [hv0.2.1]; rfl
  | 2,_=>rw [hv0.2.2.1]; rfl
  | 3,_=>rw [hv0.2.2.2.1]; rfl
  | 4,_=>rw [hv0.2.2.2.2]; rfl)
 have hnew:gq (W.setCells oa (i * 5) v.cells) oa (i * 5) v:=⟨hin 0 (by show 0 < 5; omega),hin 1 (by show 1 < 5; omega),hin 2 (by show 2 < 5; omega),hin 3 (by show 3 < 5; omega),hin 4 (by show 4 < 5; omega)⟩;have hout:∀ i',i'≠i→∀ j,j < 5→(W.setCells oa (i * 5) v.cells).cell? ⟨oa,i' * 5+j,none⟩=W.cell? ⟨oa,i' * 5+j,none⟩:=fun i' hne j hj=>World.cell?_setCells_out _ _ _ _ _ (fun _ _=>by
  show i' * 5+j < i * 5∨i * 5+5≤i' * 5+j
  rcases Nat.lt_or_ge i' i with h | h <;> omega)
 refine ⟨Nat.le_trans s.size hg.size,s.ne,s.k1,s.k2,s.bel.grown hg (by have:=s.size; have:=s.k1; have:=s.l1; omega) (fun j hj=>by have:=Option.some.inj hj; have:=s.k2; omega),s.l1,s.l2,fun b h1 h2 h3=>(k b (by have:=s.size; omega) h3).trans (s.far b h1 h2 h3),fun o ho=>(e1 o).trans (s.ncell o ho),fun o=>by rw [World.frozen?_setCells]; exact s.nfz o,fun o=>by rw [World.frozen?_setCells]; exact s.ofz o,s.node.ext fun j _=>e1 _,
  fun p hp=>?_,fun i' hi'=>?_,fun i' hi' j hj=>?_⟩
 ·rcases List.mem_append.1 hp with hp | hp
  ·exact (s.occ p hp).ext (hout p.1 (fun e=>hv p.2 (by rw [← e]; exact hp)))
  ·rw [List.mem_singleton.1 hp]; exact hnew
 ·by_cases he:i'=i
  ·subst he; exact ⟨v,hnew⟩
  ·obtain ⟨u,hu⟩:=s.full i' hi'
   exact ⟨u,hu.ext (hout i' he)⟩
 ·have he:i'≠i:=fun e=>hi' v (by simp [e])
  exact (hout i' he j hj).trans (s.rest i' (fun u hu=>hi' u (by simp [hu])) j hj)
end
end Go.Proofs.YtmpmfamiegpmgaaGreatDoor
