/-
  The law AstPlaces, walked.; The law AstPlaces, as its row wants it.
-/
import Derived.Test.YtmpmfamiegpmgaaGreatDoorFHD
import Derived.Test.YtmpmfamiegpmgaaGreatDoorFZB
import Derived.Test.YtmpmfamiegpmgaaGreatDoorFHC
import Derived.Deep.Cut
namespace Go.Proofs.YtmpmfamiegpmgaaGreatDoor
open Tryz
open Go.Lib (cell_of_heap hid)
open Go.RowKit
set_option maxRecDepth 20000
set_option linter.unusedVariables false
set_option linter.unusedSimpArgs false
theorem Ws (a b:ByteArray) (ha:a.size≤1000000) (hb:b.size≤1000000) (w:World):(Op.stringOp .add a b).run prog w=.ok (.string (a++b)) w :=
 run_string_add_sum w a b (by omega)
def sK (k:Nat):ByteArray:=bif k % 3 == 0 then ⟨#[32]⟩ else bif k % 3 == 1 then ⟨#[10]⟩ else ⟨#[40,42,120,42,41]⟩
theorem J5 {M:ByteArray} (h:oG M.data.toList) (k:Nat):oG (M++sK k).data.toList∧(M++sK k).size≤M.size+5:=by
 have hd:(M++sK k).data.toList=M.data.toList++(sK k).data.toList:=by rw [ByteArray.data_append]; simp
 rw [hd,ByteArray.size_append]
 unfold sK
 cases (k % 3 == 0)
 ·cases (k % 3 == 1)
  ·exact ⟨h.snoc_note,by show M.size+5≤_; omega⟩
  ·exact ⟨h.snoc_blank 10 (by decide),by show M.size+1≤_; omega⟩
 ·exact ⟨h.snoc_blank 32 (by decide),by show M.size+1≤_; omega⟩
theorem TI (M s:ByteArray) (h:oG M.data.toList):Ahd s (M++s) M.size:=⟨⟨M.data.toList,h,aW M,by rw [ByteArray.data_append]; simp⟩⟩
theorem Tm (n:Int):∃ N:Nat,(wrap64 (n.tmod 51+51)).tmod 51=(N:Int)∧N≤50:=by
 have t1:=Int.tmod_lt_of_pos n (show (0:Int) < 51 by omega)
 have t2:-51 < n.tmod 51:=Int.lt_tmod_of_pos n (show (0:Int) < 51 by omega)
 have e1:wrap64 (n.tmod 51+51)=n.tmod 51+51:=by unfold wrap64; omega
 rw [e1]
 have t3:=Int.tmod_lt_of_pos (n.tmod 51+51) (show (0:Int) < 51 by omega)
 have t4:=Int.tmod_nonneg 51 (show 0≤n.tmod 51+51 by omega)
 exact ⟨((n.tmod 51+51).tmod 51).toNat,by omega,by omega⟩
theorem TK {s:ByteArray} {a c:Int} (h:jT s a c):0≤a∧a≤(s.size:Int):=by
 have key:∀ l:List Tok,(∀ x ∈ l,x.a≤s.size)→0≤(firstT s l).1∧(firstT s l).1≤(s.size:Int):=by
  intro l
  induction l with
  | nil=>intro _; simp only [firstT]; omega
  | cons x r ih =>
   intro hl
   simp only [firstT]
   cases iI x
   ·have:=hl x (by simp)
    simp only [cond_false]; omega
   ·exact ih fun y hy=>hl y (by simp [hy])
 rcases h with ⟨_,rfl,_⟩ | ⟨_,S,a1,a2,a3,⟨n,_,rfl,_⟩ | ⟨n,_,rfl,_⟩⟩
 ·rw [nC]
  refine key _ fun x hx=>?_
  rw [iy] at hx
  rcases List.mem_append.1 hx with hx | hx
  ·have:=(mF s).1 x hx; omega
  ·simp at hx; subst hx; exact Nat.le_refl _
 all_goals
  unfold Src.pl
  cases h:S.ts[n]? with
  | none=>simp only; omega
  | some x =>
   have:=a3.inside x (List.mem_of_getElem? h)
   rw [a1] at this
   simp only; omega
theorem wP {w:World} {base E size n:Nat} {v:Value} {xs:List Value} (h:w.ownsRow base E size v n xs):∃ p c,v=.slice p n c:=by
 rcases h.2 with ⟨rfl,h0⟩ | ⟨g,c,cur,rfl,_⟩
 ·exact ⟨none,0,by rw [h0]⟩
 ·exact ⟨_,c,rfl⟩
theorem Qd {l:List jr} {K i:Nat} {v:jr} (h:l[i]?=some v):(l.map (onO K))[i]?=some (onO K v):=by rw [List.getElem?_map,h]; rfl
set_option maxHeartbeats 40000000 in
theorem places_any (s:ByteArray) (n:Int) (W:World) (hs:s.size≤maxLen) (hwf:(Lit.int .i64 n).wf=true) (hk:Kw W) :
  Calls prog 6 #[.string s,.int .i64 n] W fun e w'=>e=.returned (.bool true)∧Below W.heap.size W w':=by
 have HA:=hid (fun w=>Gf w)
 have HK:=hid hk
 have HS:=hid hs
 clear hs hk hwf
 by_cases hbig:3000 < s.size
 ·have H8:=hid (HA.out W HK.out)
  have hb2:(3000:Int) < (s.size:Int):=by omega
  go_enter func6,ntmps6
  go_wp2_with fail
  refine H8.out.mono ?_
  rintro e w1 ⟨rfl,hb⟩
  have HB:=hid hb
  clear hb H8
  go_wp2_with fail
  go_ret
  exact ⟨rfl,HB.out⟩
 ·obtain ⟨N,hN,abx⟩:=Tm n
  have hb2:¬ (3000:Int) < (s.size:Int):=by omega
  go_enter func6,ntmps6
  go_wp2_with fail
  go_loopw [5,6] (fun v i wr=>∃ (k:Nat) (M:ByteArray),k≤N∧i=.int .i64 k∧v=.string M∧M.size≤5 * k∧Hid (oG M.data.toList)∧Hid (Below W.heap.size W wr)) (fun _ i _=>N - (intOf i).toNat)
  case atStart=>exact ⟨0,⟨#[]⟩,by omega,rfl,rfl,by decide,hid .nil,hid (Below.refl _ _)⟩
  case round =>
   obtain ⟨k,M,hk,rfl,rfl,hM,HM,HB⟩:=hrel
   by_cases hlt:k < N
   ·obtain ⟨hm1,hm2⟩:=J5 HM.out k
    have hz:=HB.out.size
    have zG:=hid (HB.out.alloc hz (.cells #[.string ⟨#[32]⟩,.string ⟨#[10]⟩,.string ⟨#[40,42,120,42,41]⟩] 9))
    have OY:=hid hm1
    have Ie:=Ws M (sK k) (by omega) (by unfold sK; cases (k % 3 == 0) <;> cases (k % 3 == 1) <;> decide)
    obtain ⟨X,hX⟩:∃ X,X=M++sK k:=⟨_,rfl⟩
    rw [← hX] at Ie hm2 OY
    have oC:k % 3=0∨k % 3=1∨k % 3=2:=by omega
    have YD:X.size≤5 * (k+1):=by omega
    clear hm1 hX hm2
    rcases oC with h3 | h3 | h3
    ·have e0:(k:Int) % 3=0:=by omega
     have e1:sK k=⟨#[32]⟩:=by unfold sK; rw [h3]; rfl
     rw [e1] at Ie
     clear h3 e1
     go_wp2_with fail
     go_roundw
     case rel=>exact ⟨k+1,X,by omega,by go_num,rfl,YD,OY,zG⟩
     case measure=>simp [intOf]; omega
    ·have e0:(k:Int) % 3=1:=by omega
     have e1:sK k=⟨#[10]⟩:=by unfold sK; rw [h3]; rfl
     rw [e1] at Ie
     clear h3 e1
     go_wp2_with fail
     go_roundw
     case rel=>exact ⟨k+1,X,by omega,by go_num,rfl,YD,OY,zG⟩
     case measure=>simp [intOf]; omega
    ·have e0:(k:Int) % 3=2:=by omega
     have e1:sK k=⟨#[40,42,120,42,41]⟩:=by unfold sK; rw [h3]; rfl
     rw [e1] at Ie
     clear h3 e1
     go_wp2_with fail
     go_roundw
     case rel=>exact ⟨k+1,X,by omega,by go_num,rfl,YD,OY,zG⟩
     case measure=>simp [intOf]; omega
   ·have hkN:k=N:=by omega
    have Ur:=hid (TI M s HM.out)
    have Ie:=Ws M s (by omega) (by omega)
    have hts:(M++s).size≤5000:=by rw [ByteArray.size_append]; omega
    obtain ⟨t,ht⟩:∃ t,t=M++s:=⟨_,rfl⟩
    rw [← ht] at Ur Ie hts
    have Vo:=hid (MP 0 (⟨#[]⟩,s) (by show s.size≤5000; omega) 0 wr (by omega) (by omega) (HK.out.step HB.out))
    clear ht HM
    have HKK:Hid (∀ w,Below wr.heap.size wr w→Kw w):=hid fun w hw=>HK.out.step (HB.out.trans (hw.mono HB.out.size))
    have HF2:Hid (∀ w,Below wr.heap.size wr w→Calls prog 17 #[.string t,.int .i64 0,.int .i64 0] w (Rf jT Rh 0 (⟨#[]⟩,t) 0 w)):=hid fun w hw=>MP 0 (⟨#[]⟩,t) hts 0 w (by omega) (by omega) (HKK.out w hw)
    have hM9:M.size≤250:=by omega
    clear hk hkN
    go_wp2_with fail
    refine Vo.out.mono ?_
    rintro x w1 ⟨hb1,⟨a,c,hc0,herr,rfl⟩ | ⟨q,nd,hgood,Z7,hq1,YE,hnl,hno,hqo,Z8,WP,rfl⟩⟩
    ·obtain ⟨w2,hw2⟩:∃ w2,w2=w1.alloc (.cells #[.int .i64 0,.int .i64 0,.int .i64 0,.int .i64 0,.slice none 0 0,.slice none 0 0] 26):=⟨_,rfl⟩
     have hb2':Below wr.heap.size wr w2:=by rw [hw2]; exact hb1.alloc hb1.size _
     have HC:=hid (HF2.out w2 hb2')
     have HW2:=hid hw2
     have HB2:=hid hb2'
     have S9:=hid herr
     have HC0:=hid hc0
     clear hb1 herr hc0 hw2 hb2' Vo HF2
     go_upto_region 9 with (fail)
     rw [← HW2.out]
     go_wp2_with fail
     refine HC.out.mono ?_
     rintro y w3 ⟨hb3,⟨a',c',_,herr',rfl⟩ | ⟨q,nd,hgood,_⟩⟩
     ·obtain ⟨e1,e2⟩:=Ur.out.err S9.out herr'
      subst e1
      subst e2
      have hbd:=TK S9.out
      have hc1:(c' != 0)=true:=by simpa using HC0.out
      obtain ⟨w4,hw4⟩:∃ w4,w4=w3.alloc (.cells #[.int .i64 0,.int .i64 0,.int .i64 0,.int .i64 0,.slice none 0 0,.slice none 0 0] 26):=⟨_,rfl⟩
      have hz2:=HB2.out.size
      have hz3:=hb3.size
      have hb4:Below wr.heap.size wr w4:=by rw [hw4]; exact (HB2.out.trans (hb3.mono hz2)).alloc (by omega) _
      have WO:=hid hw4
      have H8:=hid (HA.out w4 (HKK.out w4 hb4))
      have HB4:=hid (HB.out.trans (hb4.mono HB.out.size))
      clear hb3 herr' hw4 hb4 HC
      go_upto_region 10 with (fail)
      rw [← WO.out]
      go_wp2_with (first | (go_at_call 21; refine (FN _ _).mono ?_; rintro e wz ⟨rfl,rfl⟩))
      refine H8.out.mono ?_
      rintro e w5 ⟨rfl,hb5⟩
      have yc:=hid (HB4.out.trans (hb5.mono HB4.out.size))
      clear hb5 H8
      go_wp2_with fail
      go_ret
      exact ⟨rfl,yc.out⟩
     ·exfalso
      obtain ⟨⟨y0,n',ts,Un⟩,_⟩:=hgood
      exact Ur.out.mix2 S9.out Un.ok
    ·obtain ⟨⟨y0,n0,ts,Un⟩,Ic⟩:=hgood
     obtain ⟨⟨qf,qh,qfirst,oa,m⟩,os⟩:=q
     simp only at Z7 hq1 YE hqo WP Ic
     subst Z7
     subst hq1
     obtain ⟨⟨nak,nam,naf,naT,nanp,nann,nanc,nans,nakp,nakn,nakc⟩,aks⟩:=nd
     simp only [Br.h] at YE ⊢
     subst YE
     simp only [Hd.val]
     obtain ⟨w2,hw2⟩:∃ w2,w2=w1.alloc (.cells #[.int .i64 nak,.int .i64 nam,.int .i64 naf,.int .i64 naT,.slice nanp nann nanc,.slice nakp nakn nakc] 26):=⟨_,rfl⟩
     have AY:Below w1.heap.size w1 w2:=by rw [hw2]; exact (Below.refl _ _).alloc (Nat.le_refl _) _
     have hb2':Below wr.heap.size wr w2:=hb1.trans (AY.mono hb1.size)
     have hbc:=cell_of_heap (heap_alloc_new w1 (.cells #[.int .i64 nak,.int .i64 nam,.int .i64 naf,.int .i64 naT,.slice nanp nann nanc,.slice nakp nakn nakc] 26))
     rw [← hw2] at hbc
     have VS:w1.heap.size < w2.heap.size:=by rw [hw2]; simp
     have Tc:Hid (∀ W,Below w2.heap.size w2 W→iK W w1.heap.size 0 ⟨nak,nam,naf,naT,nanp,nann,nanc,nans,nakp,nakn,nakc⟩):=hid fun W hW=>iK.ext ⟨hbc 0,hbc 1,hbc 2,hbc 3,hbc 4,hbc 5⟩ (fun j _=>hW.cell (p:=⟨w1.heap.size,_,none⟩) VS)
     have Uo:=hid (hnl.step _ AY)
     have Uh:=hid (Z8.step AY)
     have HC:=hid (HF2.out w2 hb2')
     have HW2:=hid hw2
     have HB2:=hid hb2'
     have Z9:=hid Un
     have HOS:=hid Ic
     clear hb1 hw2 hb2' AY hbc Un Ic hnl hno Z8 Vo HF2
     go_upto_region 9 with (fail)
     rw [← HW2.out]
     go_wp2_with fail
     refine HC.out.mono ?_
     rintro y w3 ⟨hb3,⟨a',c',_,herr',rfl⟩ | ⟨q',nd',hgood',hqf',hq1',hqh',hnl',hno',hqo',hqv',hql',rfl⟩⟩
     ·exfalso
      exact Ur.out.mix Z9.out.ok herr'
     ·obtain ⟨⟨y0',n0',ts',hpf'⟩,hosf'⟩:=hgood'
      obtain ⟨zI,Lj,Ll⟩:=Ur.out.same (by omega) Z9.out hpf'
      obtain ⟨⟨qf',qh',qfirst',oa',m'⟩,os'⟩:=q'
      simp only at hqf' hq1' hqh' hqo' hql' hosf' zI
      obtain ⟨⟨nbk,nbm,nbf,nbt,nbnp,nbnn,nbnc,nbns,nbkp,nbkn,nbkc⟩,bks⟩:=nd'
      simp only [Br.h] at hqh' ⊢
      subst hqh'
      simp only [Hd.val]
      have hm1:m=os.length:=Uh.out.m
      have hm2:m'=os'.length:=hqv'.m
      have hmm:m'=m:=by rw [hm2,zI,List.length_map,hm1]
      subst hmm
      obtain ⟨w4,hw4⟩:∃ w4,w4=w3.alloc (.cells #[.int .i64 nbk,.int .i64 nbm,.int .i64 nbf,.int .i64 nbt,.slice nbnp nbnn nbnc,.slice nbkp nbkn nbkc] 26):=⟨_,rfl⟩
      have hz2:=HB2.out.size
      have hz3:=hb3.size
      have O1:Below w3.heap.size w3 w4:=by rw [hw4]; exact (Below.refl _ _).alloc (Nat.le_refl _) _
      have Ig:Below w2.heap.size w2 w4:=hb3.trans (O1.mono hz3)
      have hb4:Below wr.heap.size wr w4:=HB2.out.trans (Ig.mono hz2)
      have hbc:=cell_of_heap (heap_alloc_new w3 (.cells #[.int .i64 nbk,.int .i64 nbm,.int .i64 nbf,.int .i64 nbt,.slice nbnp nbnn nbnc,.slice nbkp nbkn nbkc] 26))
      rw [← hw4] at hbc
      obtain ⟨a0,a1,a2,a3,a4,a5⟩:=(Tc.out w4 Ig).box
      have b0:w4.cell? ⟨w3.heap.size,0,none⟩=some (.int .i64 nbk):=hbc 0
      have b1:w4.cell? ⟨w3.heap.size,1,none⟩=some (.int .i64 nbm):=hbc 1
      have b2:w4.cell? ⟨w3.heap.size,2,none⟩=some (.int .i64 nbf):=hbc 2
      have b3:w4.cell? ⟨w3.heap.size,3,none⟩=some (.int .i64 nbt):=hbc 3
      have b4:w4.cell? ⟨w3.heap.size,4,none⟩=some (.slice nbnp nbnn nbnc):=hbc 4
      have b5:w4.cell? ⟨w3.heap.size,5,none⟩=some (.slice nbkp nbkn nbkc):=hbc 5
      have HV1':=hid (Uh.out.step Ig)
      have HV2':=hid (hqv'.step O1)
      have VT:=hid (Uo.out.step _ Ig)
      have VU:=hid (hnl'.step _ O1)
      have Uk:Hid (∀ Z,Below w4.heap.size w4 Z→Calls prog 19 #[.agg #[.int .i64 nak,.int .i64 nam,.int .i64 naf,.int .i64 naT,.slice nanp nann nanc,.slice nakp nakn nakc],.agg #[.int .i64 nbk,.int .i64 nbm,.int .i64 nbf,.int .i64 nbt,.slice nbnp nbnn nbnc,.slice nbkp nbkn nbkc],.bool false] Z fun e w'=>e=.returned (.bool true)∧Below Z.heap.size Z w'):=hid fun Z hZ=>by
       have q1:=VT.out.step _ hZ
       have q2:=VU.out.step _ hZ
       have q3:=BV false _ _ Z q1 q2 Ll Lj
       exact q3
      have hzz:w3.heap.size < w4.heap.size:=by rw [hw4]; simp
      have VV:Hid (∀ Z,Below w4.heap.size w4 Z→(Z.cell? ⟨w1.heap.size,0,none⟩=some (.int .i64 nak)∧Z.cell? ⟨w1.heap.size,1,none⟩=some (.int .i64 nam)∧Z.cell? ⟨w1.heap.size,2,none⟩=some (.int .i64 naf)∧Z.cell? ⟨w1.heap.size,3,none⟩=some (.int .i64 naT)∧Z.cell? ⟨w1.heap.size,4,none⟩=some (.slice nanp nann nanc)∧Z.cell? ⟨w1.heap.size,5,none⟩=some (.slice nakp nakn nakc))∧(Z.cell? ⟨w3.heap.size,0,none⟩=some (.int .i64 nbk)∧Z.cell? ⟨w3.heap.size,1,none⟩=some (.int .i64 nbm)∧Z.cell? ⟨w3.heap.size,2,none⟩=some (.int .i64 nbf)∧Z.cell? ⟨w3.heap.size,3,none⟩=some (.int .i64 nbt)∧Z.cell? ⟨w3.heap.size,4,none⟩=some (.slice nbnp nbnn nbnc)∧Z.cell? ⟨w3.heap.size,5,none⟩=some (.slice nbkp nbkn nbkc))):=hid fun Z hZ=>by
       have hq:=(Tc.out Z (Ig.trans (hZ.mono (by omega)))).box
       have hc:∀ k:Nat,Z.cell? ⟨w3.heap.size,k,none⟩=w4.cell? ⟨w3.heap.size,k,none⟩:=fun k=>hZ.cell (p:=⟨w3.heap.size,k,none⟩) hzz
       exact ⟨hq,(hc 0).trans b0,(hc 1).trans b1,(hc 2).trans b2,(hc 3).trans b3,(hc 4).trans b4,(hc 5).trans b5⟩
      have WH:=hid zI
      have OY:=hid hm1
      have HB4:=hid (HB.out.trans (hb4.mono HB.out.size))
      have HB4':=hid hb4
      have WO:=hid hw4
      have Ym:m'≤5000:=by have:=HOS.out.len; (try simp only at this); omega
      clear hb3 hw4 hb4 O1 Ig hbc HC zI Lj Ll hnl' hno' hqv' hpf' hosf' hm1 hm2 hqf' hq1' Tc Uo Uh VT VU a0 a1 a2 a3 a4 a5 b0 b1 b2 b3 b4 b5 hz2 hz3 hzz VS
      go_upto_region 10 with (fail)
      rw [← WO.out]
      go_wp2_with (first | (go_at_call 21; refine (FN _ _).mono ?_; rintro e wz ⟨rfl,rfl⟩))
      go_loopw [77] (fun iv wx=>∃ i:Nat,i≤m'∧iv=.int .i64 i∧Hid (Below w4.heap.size w4 wx)) (fun iv _=>m' - (intOf iv).toNat)
      case atStart=>exact ⟨0,by omega,rfl,hid (Below.refl _ _)⟩
      case round =>
       obtain ⟨i,hi,rfl,HX⟩:=hrel
       by_cases hlt:i < m'
       ·obtain ⟨v,hv⟩:∃ v,os[i]?=some v:=⟨_,List.getElem?_eq_getElem (by rw [← OY.out]; exact hlt)⟩
        have hv':os'[i]?=some (onO M.size v):=by rw [WH.out]; exact Qd hv
        obtain ⟨u0,u1,u2,u3,u4⟩:=(HV1'.out.step HX.out).at_ i v hv
        obtain ⟨x0,x1,x2,x3,x4⟩:=(HV2'.out.step HX.out).at_ i _ hv'
        have hrg:=HOS.out.rng v (List.mem_of_getElem? hv)
        obtain ⟨vf,va,ve,vs,vd⟩:=v
        simp only [onO] at u0 u1 u2 u3 u4 x0 x1 x2 x3 x4 hrg
        have r1:(0:Int)≤(i:Int):=by omega
        have r2:(i:Int) < (m':Int):=by omega
        have hva:0≤va∧va≤5000:=by omega
        have hve:0≤ve∧ve≤5000:=by omega
        clear hv hv' hrg
        go_wp2_with fail
        go_quiet (fail)
        go_wp2_with fail
        go_roundw
        case rel=>exact ⟨i+1,by omega,by go_num,hid (HX.out.trans ((below_drewN (Below.refl _ _) _).mono HX.out.size))⟩
        case measure=>simp [intOf]; omega
       ·have hwl:(aN t).length=(aN s).length:=by rw [Ur.out.words.1,List.length_map]
        have hsz:s.size≤1000000:=by omega
        have htz:t.size≤1000000:=by omega
        have HWL:=hid hwl
        have SK:=hid (Uk.out _ HX.out)
        obtain ⟨⟨a0,a1,a2,a3,a4,a5⟩,b0,b1,b2,b3,b4,b5⟩:=VV.out _ HX.out
        clear hwl Uk VV
        go_wp2_with fail
        refine SK.out.mono ?_
        rintro e w5 ⟨rfl,hb5⟩
        have HC2:=hid (ww s hsz w5)
        have yc:Hid (Below w4.heap.size w4 w5):=hid (HX.out.trans (hb5.mono HX.out.size))
        clear hb5 SK a0 a1 a2 a3 a4 a5 b0 b1 b2 b3 b4 b5
        go_wp2_with fail
        refine HC2.out.mono ?_
        rintro e w6 ⟨v1,rfl,⟨base1,hrow1⟩,hb6⟩
        obtain ⟨p1,c1,rfl⟩:=wP hrow1
        have HC3:=hid (ww t htz w6)
        have Ou:Hid (Below w4.heap.size w4 w6):=hid (yc.out.trans (hb6.mono yc.out.size))
        clear hrow1 hb6 HC2
        go_wp2_with fail
        refine HC3.out.mono ?_
        rintro e w7 ⟨v2,rfl,⟨base2,hrow2⟩,hb7⟩
        obtain ⟨p2,c2,rfl⟩:=wP hrow2
        rw [HWL.out]
        have OD:Hid (Below w4.heap.size w4 w7):=hid (Ou.out.trans (hb7.mono Ou.out.size))
        have H8:=hid (HA.out w7 (HKK.out w7 (HB4'.out.trans (OD.out.mono HB4'.out.size))))
        clear hrow2 hb7 HC3
        go_wp2_with fail
        refine H8.out.mono ?_
        rintro e w8 ⟨rfl,hb8⟩
        have Sm:=hid (HB4.out.trans ((OD.out.trans (hb8.mono OD.out.size)).mono HB4.out.size))
        clear hb8 H8
        go_wp2_with fail
        go_ret
        exact ⟨rfl,Sm.out⟩
theorem En (s:ByteArray) (n:Int) (w:World) (hs:s.size≤maxLen) (hwf:(Lit.int .i64 n).wf=true) (hk:Kw w) :
  Calls prog 6 #[.string s,.int .i64 n] w fun e w'=>e=.returned (.bool true)∧Below w.heap.size w w':=places_any s n w hs hwf hk
end Go.Proofs.YtmpmfamiegpmgaaGreatDoor
