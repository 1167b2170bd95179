/-
  The document's Kind.; The document's lexer: bytes, notes, texts.
-/
import Derived.Test.YtmpmfamiegpmgaaGreatDoorFA
import Derived.Test.YtmpmfamiegpmgaaGreatDoorFJ
namespace Go.Proofs.YtmpmfamiegpmgaaGreatDoor
open Tryz
open Go.Lib (hid toList_data)
open Go.RowKit
set_option maxRecDepth 20000
set_option linter.unusedVariables false
set_option linter.unusedSimpArgs false
def tkR (s:ByteArray) (k:Nat):Bool:=(s.data.toList.take k).all bg
def tkS (s:ByteArray) (k:Nat):Bool:=(s.data.toList.take k).all bC
theorem GN (f:UInt8→Bool) (s:ByteArray) (k:Nat) (h:k < s.size):(s.data.toList.take (k+1)).all f=((s.data.toList.take k).all f && f s[k]):=by
 rw [List.take_succ_eq_append_getElem (by rw [aW]; exact h),jy s k h]; simp
theorem LW (s:ByteArray) (h0:0 < s.size) (hm:mkB s=false) (hs:tY s=true):bJ s=9:=by
 have h1:=IW s h0 hs
 have hb:ig s=9:=by
  rw [jD s h0,h1]
  cases e1:fP s[0]
  ·cases e2:gZ s[0]
   ·rfl
   ·have:=pR _ (Cc _ e2); rw [h1] at this; exact absurd this (by simp)
  ·have:=pR _ (DL _ e1); rw [h1] at this; exact absurd this (by simp)
 unfold bJ; rw [hm,hb,hs]; rfl
theorem Qm (s:ByteArray) (hm:mkB s=false) (hs:tY s=false) (hr:lU s=false):bJ s=0:=by
 unfold bJ; rw [hm,hs,hr]; cases ig s == 9 <;> cases ig s == 0 <;> rfl
theorem Oi (s:ByteArray) (h0:0 < s.size) (hm:mkB s=false) (hs:tY s=false) (hr:lU s=true) :
  bJ s=bif gZ s[0] then 7 else bif (((s[0].toNat:Int) == 39) && uQ s) then 8 else bif fP s[0] then (bif kwB s then 10 else 6) else 0:=by
 have h1:=pR _ (FB s h0 hr)
 have hb:=jD s h0
 have e1:=O3 s[0]
 have e2:=C9 s[0]
 have e3:=Nq s[0]
 have hk:=Nw s
 rw [h1] at hb
 unfold bJ
 rw [hm,hs,hr]
 cases a:gZ s[0]
 ·cases b:((s[0].toNat:Int) == 39)
  ·simp only [a,b,cond_false,Bool.false_and] at hb
   cases c:fP s[0] <;> simp only [c,cond_true,cond_false] at hb <;> rw [hb] <;> cases kwB s <;> rfl
  ·rw [e2 b,a,b] at hb
   rw [e2 b]
   cases d:uQ s <;> simp only [d,cond_true,cond_false,Bool.true_and] at hb <;> rw [hb] <;> rw [hb] at hk <;> simp only [hk (by omega)] <;> rfl
 ·rw [e1 a,a] at hb
  simp only [cond_true,cond_false] at hb
  rw [hb] at hk ⊢
  rw [hk (by omega)]
  rfl
set_option maxHeartbeats 2000000 in
theorem zT (s:ByteArray) (w:World) (h0:s.size=0):Calls prog 162 #[.string s] w fun e w'=>e=.returned (.int .i64 (bJ s))∧Below w.heap.size w w':=by
 have he:s.toList=[]:=by rw [toList_data,← List.length_eq_zero_iff,aW]; exact h0
 have hem:s.toList.isEmpty=true:=by rw [he]; rfl
 have HN:Hid (bJ s=0):=hid (by
  have hm:mkB s=false:=by rw [ER s,he]; rfl
  unfold bJ; rw [hm,vK s h0]; rfl)
 clear h0 he
 go_enter func162,ntmps162
 go_wp2
 go_ret
 exact ⟨bK HN.out.symm,Below.refl _ _⟩
set_option maxHeartbeats 2000000 in
theorem Au (s:ByteArray) (w:World) (h0:0 < s.size) (hs:s.size≤9223372036854775807):Calls prog 162 #[.string s] w fun e w'=>e=.returned (.int .i64 (bJ s))∧Below w.heap.size w w':=by
 have hem:s.toList.isEmpty=false:=by
  rw [toList_data]
  cases e:s.data.toList with
  | nil=>have:=aW s; rw [e] at this; simp at this; omega
  | cons=>rfl
 have Vm:=LW s h0
 have Yu:=Qm s
 have QO:=Oi s h0
 cases hm:mkB s
 case true =>
  have HN:Hid (bJ s=11):=hid (by unfold bJ; rw [hm]; rfl)
  clear Vm Yu QO
  go_enter func162,ntmps162
  go_wp2_with (first | (go_at_call 203; refine (yZ w).mono ?_; rintro e w1 ⟨rfl,hi,hb⟩) | (go_at_call 202; refine (EW mkT s _ 12 12 _ hi (by omega)).mono ?_; rw [show inB mkT s=true from hm]; rintro e w2 ⟨rfl,rfl⟩))
  go_ret
  exact ⟨bK HN.out.symm,hb⟩
 have HL:Hid (mkB s=false):=hid hm
 have h1:=hid (Vm hm)
 have h2:=hid (Yu hm)
 have h3:=hid (QO hm)
 clear Vm Yu QO hm
 go_enter func162,ntmps162
 go_wp2_with (first | (go_at_call 203; refine (yZ w).mono ?_; rintro e w1 ⟨rfl,hi,hb⟩) | (go_at_call 202; refine (EW mkT s _ 12 12 _ hi (by omega)).mono ?_; rw [show inB mkT s=false from HL.out]; rintro e w2 ⟨rfl,rfl⟩))
 clear hi
 go_loop [3,4,5] (fun r g i=>∃ k:Nat,k≤s.size∧i=.int .i64 k∧r=.bool (tkR s k)∧g=.bool (tkS s k)) (fun _ _ i=>s.size - (intOf i).toNat)
 case atStart=>exact ⟨0,by omega,rfl,rfl,rfl⟩
 case round =>
  obtain ⟨k,hk,rfl,rfl,rfl⟩:=hrel
  by_cases hlt:k < s.size
  ·have HR:=fun w=>iV s[k] w
   have HS:=fun w=>kT s[k] w
   have E1:=hid (GN bg s k hlt)
   have E2:=hid (GN bC s k hlt)
   have F1:Hid (tkR s (k+1)=(tkR s k && bg s[k])):=hid E1.out
   have F2:Hid (tkS s (k+1)=(tkS s k && bC s[k])):=hid E2.out
   clear E1 E2
   cases ha:tkR s k <;> cases hb:tkS s k <;> cases hc:bg s[k] <;> cases hd:bC s[k] <;> simp only [ha,hb,hc,hd,Bool.and_true,Bool.and_false] at F1 F2 HR HS <;> clear ha hb hc hd
   all_goals
    go_wp2_with (first | (go_at_call 159; refine (HR _).mono ?_; rintro e w2 ⟨rfl,rfl⟩) | (go_at_call 161; refine (HS _).mono ?_; rintro e w2 ⟨rfl,rfl⟩))
    go_round
    case rel=>exact ⟨k+1,by omega,by go_num,by rw [F1.out],by rw [F2.out]⟩
    case measure=>simp [intOf]; omega
  ·have e1:tkR s k=lU s:=by unfold tkR lU; rw [List.take_of_length_le (by rw [aW]; omega)]
   have e2:tkS s k=tY s:=by unfold tkS tY; rw [List.take_of_length_le (by rw [aW]; omega)]
   rw [e1,e2]
   cases hS:tY s
   case true =>
    have HN:=hid (h1.out hS)
    clear e1 e2 hS
    go_wp2
    go_ret
    exact ⟨bK HN.out.symm,hb⟩
   cases hR:lU s
   case false =>
    have HN:=hid (h2.out hS hR)
    clear e1 e2 hS hR
    go_wp2
    go_ret
    exact ⟨bK HN.out.symm,hb⟩
   have HN:=hid (h3.out hS hR)
   have HC:=fun w=>yO s[0] w
   have Um:=fun w=>pY s[0] w
   have ZW:Hid (inB kwT s=kwB s):=hid rfl
   clear e1 e2 hS hR h1 h2 h3
   cases hcap:gZ s[0]
   case true =>
    simp only [hcap,cond_true] at HN HC
    clear hcap
    go_wp2_with (first | (go_at_call 201; refine (HC _).mono ?_; rintro e w2 ⟨rfl,rfl⟩))
    go_ret
    exact ⟨bK HN.out.symm,hb⟩
   simp only [hcap,cond_false] at HN HC
   clear hcap
   have OX:uQ s=true→1 < s.size:=by
    intro h
    by_cases h1:s.size=1
    ·unfold uQ at h; rw [qM s h1] at h; simp at h
    ·omega
   cases hq:(((s[0].toNat:Int) == 39) && uQ s)
   case true =>
    obtain ⟨hq1,hq2⟩:=Bool.and_eq_true_iff.1 hq
    have hz:=OX hq2
    have HD:=fun w=>pY s[1] w
    have hl:fP s[1]=true:=by unfold uQ at hq2; rw [lK s hz] at hq2; exact hq2
    simp only [hq,cond_true] at HN
    simp only [hl] at HD
    clear hq hq2 OX hl
    go_wp2_with (first | (go_at_call 201; refine (HC _).mono ?_; rintro e w2 ⟨rfl,rfl⟩) | (go_at_call 200; refine (HD _).mono ?_; rintro e w2 ⟨rfl,rfl⟩))
    go_ret
    exact ⟨bK HN.out.symm,hb⟩
   simp only [hq,cond_false] at HN
   cases hq1:((s[0].toNat:Int) == 39)
   case true =>
    have hlo:=C9 _ hq1
    have hs2:uQ s=false:=by rw [hq1,Bool.true_and] at hq; exact hq
    simp only [hlo,cond_false] at HN Um
    clear hlo hq OX
    by_cases hz:s.size=1
    ·have hz':s.size≤1:=by omega
     clear hs2 hz
     go_wp2_with (first | (go_at_call 201; refine (HC _).mono ?_; rintro e w2 ⟨rfl,rfl⟩) | (go_at_call 200; refine (Um _).mono ?_; rintro e w2 ⟨rfl,rfl⟩))
     go_ret
     exact ⟨bK HN.out.symm,hb⟩
    ·have hz':1 < s.size:=by omega
     have HD:=fun w=>pY s[1] w
     have hl:fP s[1]=false:=by unfold uQ at hs2; rw [lK s hz'] at hs2; exact hs2
     simp only [hl] at HD
     clear hs2 hz hl
     go_wp2_with (first | (go_at_call 201; refine (HC _).mono ?_; rintro e w2 ⟨rfl,rfl⟩) | (go_at_call 200; refine (Um _).mono ?_; rintro e w2 ⟨rfl,rfl⟩) | (go_at_call 200; refine (HD _).mono ?_; rintro e w2 ⟨rfl,rfl⟩))
     go_ret
     exact ⟨bK HN.out.symm,hb⟩
   clear hq OX
   cases hl:fP s[0] <;> simp only [hl,cond_true,cond_false] at HN Um <;> clear hl
   case false =>
    go_wp2_with (first | (go_at_call 201; refine (HC _).mono ?_; rintro e w2 ⟨rfl,rfl⟩) | (go_at_call 200; refine (Um _).mono ?_; rintro e w2 ⟨rfl,rfl⟩))
    go_ret
    exact ⟨bK HN.out.symm,hb⟩
   cases hkw:kwB s
   all_goals
    rw [hkw] at ZW
    simp only [hkw,cond_true,cond_false] at HN
    clear hkw
    go_wp2_with (first | (go_at_call 201; refine (HC _).mono ?_; rintro e w2 ⟨rfl,rfl⟩) | (go_at_call 200; refine (Um _).mono ?_; rintro e w2 ⟨rfl,rfl⟩) | (go_at_call 204; refine (uS _).mono ?_; rintro e w2 ⟨rfl,hi2,hb2⟩) | (go_at_call 202; refine (EW kwT s _ 25 25 _ hi2 (by omega)).mono ?_; rw [ZW.out]; rintro e w3 ⟨rfl,rfl⟩))
    go_ret
    exact ⟨bK HN.out.symm,hb.trans (hb2.mono hb.size)⟩
theorem iO (s:ByteArray) (w:World) (hs:s.size≤9223372036854775807):Calls prog 162 #[.string s] w fun e w'=>e=.returned (.int .i64 (bJ s))∧Below w.heap.size w w':=by
 by_cases h0:s.size=0
 ·exact zT s w h0
 ·exact Au s w (by omega) hs
theorem ik (c:UInt8) (w:World):Calls prog 156 #[.int .u8 (c.toNat:Int)] w fun e w'=>e=.returned (.bool (bD c))∧w=w':=by
 have hc:=c.toNat_lt
 have HB:Hid (bD c=(((c.toNat:Int) == 32) || ((c.toNat:Int) == 9) || ((c.toNat:Int) == 10) || ((c.toNat:Int) == 13))):=hid rfl
 go_enter func156,ntmps156
 go_wp2
 all_goals
  go_ret
  exact ⟨aO (by simp [HB.out, *]),rfl⟩
theorem xZ (c:UInt8) (w:World):Calls prog 160 #[.int .u8 (c.toNat:Int)] w fun e w'=>e=.returned (.bool (dW c))∧w=w':=by
 have hc:=c.toNat_lt
 by_cases h1:48≤c.toNat
 ·have h:Hid (dW c=decide ((c.toNat:Int)≤57)):=hid (by unfold dW; rw [Bool.eq_iff_iff]; simp; omega)
  go_enter func160,ntmps160
  go_wp2
  go_ret
  exact ⟨aO h.out.symm,rfl⟩
 ·have h:Hid (dW c=false):=hid (by unfold dW; simp; omega)
  go_enter func160,ntmps160
  go_wp2
  go_ret
  exact ⟨aO h.out.symm,rfl⟩
def dn:Int→List UInt8→Option Nat
 | D,a :: b :: r =>
  bif ((a.toNat:Int) == 40) && ((b.toNat:Int) == 42) then (dn (D+1) r).map (·+2)
  else bif ((a.toNat:Int) == 42) && ((b.toNat:Int) == 41) then (bif D - 1 == 0 then some 2 else (dn (D - 1) r).map (·+2))
  else (dn D (b :: r)).map (·+1)
 | _,_=>none
def dnR (s:ByteArray) (D:Int) (k:Nat):Int:=match dn D (s.data.toList.drop k) with | some m=>((k+m:Nat):Int) | none=>0
theorem oZ (s:ByteArray) (k:Nat) (h:k+1 < s.size):s.data.toList.drop k=s[k] :: s[k+1] :: s.data.toList.drop (k+2):=by
 rw [drop_at s k (by omega),drop_at s (k+1) h]
theorem Fg (s:ByteArray) (D:Int) (k:Nat) (h:s.size≤k+1):dnR s D k=0:=by
 unfold dnR
 have hl:(s.data.toList.drop k).length≤1:=by rw [List.length_drop,aW]; omega
 match hd:s.data.toList.drop k,hl with
 | [],_=>rfl
 | [a],_=>rfl
theorem Ol (s:ByteArray) (D:Int) (k:Nat) (h:k+1 < s.size) (h1:((s[k].toNat:Int) == 40)=true) (h2:((s[k+1].toNat:Int) == 42)=true):dnR s D k=dnR s (D+1) (k+2):=by
 unfold dnR
 rw [oZ s k h]
 simp only [dn,h1,h2,Bool.and_self,cond_true]
 cases dn (D+1) (s.data.toList.drop (k+2)) with
 | none=>rfl
 | some m=>show ((k+(m+2):Nat):Int)=((k+2+m:Nat):Int); omega
theorem ML (s:ByteArray) (D:Int) (k:Nat) (h:k+1 < s.size) (h1:((s[k].toNat:Int) == 42)=true) (h2:((s[k+1].toNat:Int) == 41)=true) (h3:(D - 1 == 0)=false):dnR s D k=dnR s (D - 1) (k+2):=by
 have h4:((s[k].toNat:Int) == 40)=false:=by rw [beq_iff_eq.1 h1]; rfl
 unfold dnR
 rw [oZ s k h]
 simp only [dn,h1,h2,h3,h4,Bool.and_self,Bool.false_and,cond_true,cond_false]
 cases dn (D - 1) (s.data.toList.drop (k+2)) with
 | none=>rfl
 | some m=>show ((k+(m+2):Nat):Int)=((k+2+m:Nat):Int); omega
theorem Qu (s:ByteArray) (D:Int) (k:Nat) (h:k+1 < s.size) (h1:((s[k].toNat:Int) == 42)=true) (h2:((s[k+1].toNat:Int) == 41)=true) (h3:(D - 1 == 0)=true):dnR s D k=((k+2:Nat):Int):=by
 have h4:((s[k].toNat:Int) == 40)=false:=by rw [beq_iff_eq.1 h1]; rfl
 unfold dnR
 rw [oZ s k h]
 simp only [dn,h1,h2,h3,h4,Bool.and_self,Bool.false_and,cond_true,cond_false]
theorem LM (s:ByteArray) (D:Int) (k:Nat) (h:k+1 < s.size) (h1:(((s[k].toNat:Int) == 40) && ((s[k+1].toNat:Int) == 42))=false) (h2:(((s[k].toNat:Int) == 42) && ((s[k+1].toNat:Int) == 41))=false):dnR s D k=dnR s D (k+1):=by
 unfold dnR
 rw [oZ s k h]
 simp only [dn,h1,h2,cond_false]
 rw [drop_at s (k+1) h]
 cases dn D (s[k+1] :: s.data.toList.drop (k+1+1)) with
 | none=>rfl
 | some m=>show ((k+(m+1):Nat):Int)=((k+1+m:Nat):Int); omega
set_option maxHeartbeats 2000000 in
theorem JE (s:ByteArray) (hs:s.size≤1000000) (a:Nat) (ha:a < s.size) (w:World):Calls prog 157 #[.string s,.int .i64 (a:Int)] w fun e w'=>e=.returned (.int .i64 (dnR s 0 a))∧w=w':=by
 obtain ⟨R,hR⟩:∃ R,R=dnR s 0 a:=⟨_,rfl⟩
 rw [← hR]
 have HR:=hid hR
 clear hR
 go_enter func157,ntmps157
 go_wp2
 go_loop [5,6] (fun dp i=>∃ (D:Int) (k:Nat),k≤s.size∧-(k:Int)≤D∧D≤k∧i=.int .i64 k∧dp=.int .i64 D∧Hid (R=dnR s D k)) (fun _ i=>s.size - (intOf i).toNat)
 case atStart=>exact ⟨0,a,by omega,by omega,by omega,rfl,rfl,HR⟩
 case round =>
  obtain ⟨D,k,hk,hd1,hd2,rfl,rfl,hq⟩:=hrel
  clear HR
  obtain ⟨j,hj⟩:∃ j:Nat,(k:Int)+1=(j:Int):=⟨k+1,by omega⟩
  by_cases hlt:k+1 < s.size
  ·have hjk:j=k+1:=by omega
   have hjlt:j < s.size:=by omega
   have abk:k < s.size:=by omega
   have q1:=Ol s D k hlt
   have q2:=ML s D k hlt
   have q3:=Qu s D k hlt
   have q4:=LM s D k hlt
   have ej:s[k+1]=s[j]:=by simp [hjk]
   rw [ej] at q1 q2 q3 q4
   clear ej
   have hnx:(j:Int)+1=((j+1:Nat):Int):=by omega
   have hm1:s.size - (intOf (.int .i64 ((j+1:Nat):Int))).toNat < s.size - (intOf (.int .i64 (k:Int))).toNat:=by simp [intOf]; omega
   have hm2:s.size - (intOf (.int .i64 (j:Int))).toNat < s.size - (intOf (.int .i64 (k:Int))).toNat:=by simp [intOf]; omega
   have OY:=hid hm1
   have Q5:=hid hm2
   clear hm1 hm2
   have HJ:=hid hjk
   have HX:=hid hnx
   clear hjk hnx
   cases h1:((s[k].toNat:Int) == 40)
   case false =>
    cases h3:((s[k].toNat:Int) == 42)
    case false =>
     have HN:=hid (hq.out.trans (q4 (by rw [h1]; rfl) (by rw [h3]; rfl)))
     clear q1 q2 q3 q4 hq
     go_wp2
     go_round
     case rel=>exact ⟨D,k+1,by have:=HJ.out; omega,by omega,by omega,by rw [← HJ.out],rfl,HN⟩
     case measure=>exact Q5.out
    case true =>
     cases h4:((s[j].toNat:Int) == 41)
     case false =>
      have HN:=hid (hq.out.trans (q4 (by rw [h1]; rfl) (by rw [h4]; simp)))
      clear q1 q2 q3 q4 hq
      go_wp2
      go_round
      case rel=>exact ⟨D,k+1,by have:=HJ.out; omega,by omega,by omega,by rw [← HJ.out],rfl,HN⟩
      case measure=>exact Q5.out
     case true =>
      cases h5:(D - 1 == 0)
      case false =>
       have HN:=hid (hq.out.trans (q2 h3 h4 h5))
       clear q1 q2 q3 q4 hq
       go_wp2
       go_round
       case rel=>exact ⟨D - 1,k+2,by have:=HJ.out; omega,by omega,by omega,by rw [HX.out,HJ.out],rfl,HN⟩
       case measure=>rw [HX.out]; exact OY.out
      case true =>
       have HN:=hid (hq.out.trans (q3 h3 h4 h5))
       clear q1 q2 q3 q4 hq
       go_wp2
       go_ret
       exact ⟨bK (by rw [HN.out,HX.out,HJ.out]),rfl⟩
   case true =>
    have h3:((s[k].toNat:Int) == 42)=false:=by rw [beq_iff_eq.1 h1]; rfl
    cases h2:((s[j].toNat:Int) == 42)
    case false =>
     have HN:=hid (hq.out.trans (q4 (by rw [h2]; simp) (by rw [h3]; rfl)))
     clear q1 q2 q3 q4 hq
     go_wp2
     go_round
     case rel=>exact ⟨D,k+1,by have:=HJ.out; omega,by omega,by omega,by rw [← HJ.out],rfl,HN⟩
     case measure=>exact Q5.out
    case true =>
     have HN:=hid (hq.out.trans (q1 h1 h2))
     clear q1 q2 q3 q4 hq
     go_wp2
     go_round
     case rel=>exact ⟨D+1,k+2,by have:=HJ.out; omega,by omega,by omega,by rw [HX.out,HJ.out],rfl,HN⟩
     case measure=>rw [HX.out]; exact OY.out
  ·have HN:=hid (hq.out.trans (Fg s D k (by omega)))
   have hge:(s.size:Int)≤(j:Int):=by omega
   clear hq
   go_wp2
   go_ret
   exact ⟨bK HN.out.symm,rfl⟩
theorem Qo:∀ (n:Nat) (r:List UInt8) (D:Int) (a:UInt8),r.length≤n→1≤D→dn D (a :: r)=bif az nF (D,a) r == r.length then none else some (az nF (D,a) r+2):=by
 intro n
 induction n with
 | zero =>
  intro r D a hn hD
  have:r=[]:=List.length_eq_zero_iff.1 (by omega)
  subst this
  rfl
 | succ n ih =>
  intro r D a hn hD
  cases r with
  | nil=>rfl
  | cons b r =>
   simp only [List.length_cons] at hn
   have two:∀ E:Int,1≤E→(dn E r).map (·+2)=bif az nF (E,0) r+1 == r.length+1 then none else some (az nF (E,0) r+1+2):=by
    intro E hE
    cases r with
    | nil=>rfl
    | cons c r =>
     have e0:az nF (E,0) (c :: r)=az nF (E,c) r+1:=by
      simp [az,nF,eqB]
     rw [ih r E c (by simp at hn; omega) hE,e0]
     simp only [List.length_cons]
     generalize az nF (E,c) r=p
     by_cases hp:p=r.length
     ·subst hp; simp
     ·have h1:(p == r.length)=false:=by simpa using hp
      have h2:(p+1+1 == r.length+1+1)=false:=by simp; omega
      rw [h1,h2]
      simp
   simp only [dn,List.length_cons]
   cases h1:(((a.toNat:Int) == 40) && ((b.toNat:Int) == 42))
   ·cases h2:(((a.toNat:Int) == 42) && ((b.toNat:Int) == 41))
    ·have e0:az nF (D,a) (b :: r)=az nF (D,b) r+1:=by
      simp [az,nF,eqB,h1,h2]
     rw [e0]
     simp only [cond_false]
     rw [ih r D b (by omega) hD]
     generalize az nF (D,b) r=p
     by_cases hp:p=r.length
     ·subst hp; simp
     ·have h1:(p == r.length)=false:=by simpa using hp
      have h2:(p+1 == r.length+1)=false:=by simp; omega
      rw [h1,h2]
      simp
    ·simp only [cond_true,cond_false]
     by_cases hD1:D - 1=0
     ·have e0:az nF (D,a) (b :: r)=0:=by
       simp [az,nF,eqB,h1,h2,hD1]
      rw [e0]
      simp [hD1]
     ·have e0:az nF (D,a) (b :: r)=az nF (D - 1,0) r+1:=by
       have:1 < D:=by omega
       simp [az,nF,eqB,h1,h2,this]
      have h5:(D - 1 == 0)=false:=by simpa using hD1
      rw [e0,h5,cond_false]
      exact two (D - 1) (by omega)
   ·have e0:az nF (D,a) (b :: r)=az nF (D+1,0) r+1:=by
     simp [az,nF,eqB,h1]
    simp only [cond_true]
    rw [e0]
    exact two (D+1) (by omega)
theorem Qw (r:List UInt8):dn 0 (40 :: 42 :: r)=bif (eU (40 :: 42 :: r)).1 == 2 then some (eU (40 :: 42 :: r)).2 else none:=by
 have e0:az nF (0,0) (40 :: 42 :: r)=az nF (1,0) r+2:=by simp [az,nF,eqB]
 have e1:dn 0 (40 :: 42 :: r)=(dn 1 r).map (·+2):=by simp [dn]
 unfold eU
 simp only [e0,e1,List.length_cons]
 cases r with
 | nil=>rfl
 | cons c r =>
  have e2:az nF (1,0) (c :: r)=az nF (1,c) r+1:=by simp [az,nF,eqB]
  rw [Qo r.length r 1 c (Nat.le_refl _) (by omega),e2]
  simp only [List.length_cons]
  generalize az nF (1,c) r=p
  by_cases hp:p=r.length
  ·subst hp; simp
  ·have h1:(p == r.length)=false:=by simpa using hp
   have h2:(p+1+2 == r.length+1+1+1)=false:=by simp; omega
   rw [h1,h2]
   simp
def sZ (d:UInt8):Bool:=((d.toNat:Int) == 34) || ((d.toNat:Int) == 92) || ((d.toNat:Int) == 110) || ((d.toNat:Int) == 116)
def dt:List UInt8→Option Nat
 | []=>none
 | c :: r=>bif ((c.toNat:Int) == 34) then some 1 else bif ((c.toNat:Int) == 10) then none
  else bif ((c.toNat:Int) == 92) then (match r with | []=>none | d :: r'=>bif sZ d then (dt r').map (·+2) else none)
  else (dt r).map (·+1)
theorem PY:∀ (n:Nat) (r:List UInt8),r.length≤n→dt r=bif headB (r.drop (az qF false r)) 34 then some (az qF false r+1) else none:=by
 intro n
 induction n with
 | zero =>
  intro r hn
  have:r=[]:=List.length_eq_zero_iff.1 (by omega)
  subst this
  rfl
 | succ n ih =>
  intro r hn
  cases r with
  | nil=>rfl
  | cons c r =>
   simp only [List.length_cons] at hn
   rw [dt.eq_def]
   simp only
   cases h1:((c.toNat:Int) == 34)
   ·cases h2:((c.toNat:Int) == 10)
    ·cases h3:((c.toNat:Int) == 92)
     ·have e0:az qF false (c :: r)=az qF false r+1:=by simp [az,qF,eqB,h1,h2,h3]
      rw [e0,ih r (by omega)]
      simp only [cond_false,List.drop_succ_cons]
      cases headB (r.drop (az qF false r)) 34 <;> rfl
     ·cases r with
      | nil =>
       have e0:az qF false [c]=1:=by simp [az,qF,eqB,h1,h2,h3]
       rw [e0]; rfl
      | cons d r =>
       simp only [cond_true,cond_false]
       cases h4:sZ d
       ·have e0:az qF false (c :: d :: r)=1:=by
         unfold sZ at h4
         simp only [Bool.or_eq_false_iff] at h4
         simp [az,qF,eqB,h1,h2,h3,h4]
        rw [e0]
        unfold sZ at h4
        simp only [Bool.or_eq_false_iff] at h4
        simp [headB,eqB,h4]
       ·have e0:az qF false (c :: d :: r)=az qF false r+2:=by
         unfold sZ at h4
         simp [az,qF,eqB,h1,h2,h3,h4]
        rw [e0,ih r (by simp at hn; omega)]
        simp only [cond_true,List.drop_succ_cons]
        cases headB (r.drop (az qF false r)) 34 <;> rfl
    ·have e0:az qF false (c :: r)=0:=by simp [az,qF,eqB,h1,h2]
     rw [e0]
     simp [headB,eqB,h1]
   ·have e0:az qF false (c :: r)=0:=by simp [az,qF,eqB,h1]
    rw [e0]
    simp [headB,eqB,h1]
def dtR (s:ByteArray) (k:Nat):Int:=match dt (s.data.toList.drop k) with | some m=>((k+m:Nat):Int) | none=>0
theorem Qv (s:ByteArray) (k:Nat) (h:s.size≤k):dtR s k=0:=by
 unfold dtR
 rw [List.drop_eq_nil_of_le (by rw [aW]; exact h)]; rfl
theorem TE (s:ByteArray) (k:Nat) (h:k < s.size):dtR s k=bif ((s[k].toNat:Int) == 34) then ((k+1:Nat):Int) else bif ((s[k].toNat:Int) == 10) then 0 else bif ((s[k].toNat:Int) == 92) then (if h':k+1 < s.size then bif sZ s[k+1] then dtR s (k+2) else 0 else 0) else dtR s (k+1):=by
 conv=>lhs; unfold dtR
 rw [drop_at s k h,dt.eq_def]
 simp only
 cases h1:((s[k].toNat:Int) == 34)
 ·cases h2:((s[k].toNat:Int) == 10)
  ·cases h3:((s[k].toNat:Int) == 92)
   ·simp only [cond_false]
    unfold dtR
    cases dt (s.data.toList.drop (k+1)) with
    | none=>rfl
    | some m=>show ((k+(m+1):Nat):Int)=((k+1+m:Nat):Int); omega
   ·simp only [cond_false,cond_true]
    by_cases h':k+1 < s.size
    ·rw [dif_pos h',drop_at s (k+1) h']
     simp only
     cases sZ s[k+1]
     ·rfl
     ·simp only [cond_true]
      unfold dtR
      cases dt (s.data.toList.drop (k+1+1)) with
      | none=>rfl
      | some m=>show ((k+(m+2):Nat):Int)=((k+2+m:Nat):Int); omega
    ·rw [dif_neg h',List.drop_eq_nil_of_le (by rw [aW]; omega)]
  ·rfl
 ·rfl
set_option maxHeartbeats 2000000 in
theorem J8 (s:ByteArray) (hs:s.size≤1000000) (a:Nat) (ha:a < s.size) (w:World):Calls prog 158 #[.string s,.int .i64 (a:Int)] w fun e w'=>e=.returned (.int .i64 (dtR s (a+1)))∧w=w':=by
 obtain ⟨R,hR⟩:∃ R,R=dtR s (a+1):=⟨_,rfl⟩
 rw [← hR]
 have HR:=hid hR
 clear hR
 go_enter func158,ntmps158
 go_wp2
 go_loop [5] (fun i=>∃ (k:Nat),k≤s.size+1∧i=.int .i64 k∧Hid (R=dtR s k)) (fun i=>s.size+1 - (intOf i).toNat)
 case atStart=>exact ⟨a+1,by omega,by first | rfl | go_num,HR⟩
 case round =>
  obtain ⟨k,hk,rfl,hq⟩:=hrel
  clear HR
  by_cases hlt:k < s.size
  ·have q:=TE s k hlt
   have hm:s.size+1 - (intOf (.int .i64 ((k:Int)+1))).toNat < s.size+1 - (intOf (.int .i64 (k:Int))).toNat:=by simp [intOf]; omega
   have HM:=hid hm
   clear hm
   cases h1:((s[k].toNat:Int) == 34)
   case true =>
    have HN:=hid (hq.out.trans (q.trans (by rw [h1,cond_true])))
    clear q hq
    go_wp2
    go_ret
    exact ⟨bK HN.out.symm,rfl⟩
   case false =>
    cases h2:((s[k].toNat:Int) == 10)
    case true =>
     have HN:Hid (R=0):=hid (hq.out.trans (q.trans (by rw [h1,h2]; rfl)))
     clear q hq
     go_wp2
     go_ret
     exact ⟨bK HN.out.symm,rfl⟩
    case false =>
     cases h3:((s[k].toNat:Int) == 92)
     case false =>
      have HN:Hid (R=dtR s (k+1)):=hid (hq.out.trans (q.trans (by rw [h1,h2,h3]; rfl)))
      clear q hq
      go_wp2
      go_round
      case rel=>exact ⟨k+1,by omega,by first | rfl | go_num,HN⟩
      case measure=>exact HM.out
     case true =>
      obtain ⟨j,hj⟩:∃ j:Nat,(k:Int)+1=(j:Int):=⟨k+1,by omega⟩
      have hjk:j=k+1:=by omega
      by_cases hjlt:j < s.size
      ·have ej:∀ h,s[k+1]'h=s[j]:=fun h=>by simp [hjk]
       have q':R=bif sZ s[j] then dtR s (k+2) else 0:=hq.out.trans (q.trans (by rw [h1,h2,h3]; simp only [cond_true,cond_false]; rw [dif_pos (by omega),ej]))
       have hE:sZ s[j]=(((s[j].toNat:Int) == 34) || ((s[j].toNat:Int) == 92) || ((s[j].toNat:Int) == 110) || ((s[j].toNat:Int) == 116)):=rfl
       have hnj:¬ (s.size:Int)≤(j:Int):=by omega
       have HJ:=hid hjk
       have hX:(j:Int)+1=((k+2:Nat):Int):=by omega
       have HX:=hid hX
       have hm2:s.size+1 - (intOf (.int .i64 ((k+2:Nat):Int))).toNat < s.size+1 - (intOf (.int .i64 (k:Int))).toNat:=by simp [intOf]; omega
       have Q5:=hid hm2
       clear hjk hX hm2 q hq ej
       cases g1:((s[j].toNat:Int) == 34)
       case true =>
        have m1:((s[j].toNat:Int) != 34)=false:=by simp [bne,g1]
        have hE':sZ s[j]=true:=by rw [hE,g1]; simp
        rw [hE'] at q'
        have HN:Hid (R=dtR s (k+2)):=hid q'
        clear q' hE hE'
        go_wp2
        go_round
        case rel=>exact ⟨k+2,by have:=HJ.out; omega,by rw [HX.out],HN⟩
        case measure=>rw [HX.out]; exact Q5.out
       case false =>
        cases g2:((s[j].toNat:Int) == 92)
        case true =>
         have m1:((s[j].toNat:Int) != 34)=true:=by simp [bne,g1]
         have m2:((s[j].toNat:Int) != 92)=false:=by simp [bne,g2]
         have hE':sZ s[j]=true:=by rw [hE,g1,g2]; simp
         rw [hE'] at q'
         have HN:Hid (R=dtR s (k+2)):=hid q'
         clear q' hE hE'
         go_wp2
         go_round
         case rel=>exact ⟨k+2,by have:=HJ.out; omega,by rw [HX.out],HN⟩
         case measure=>rw [HX.out]; exact Q5.out
        case false =>
         cases g3:((s[j].toNat:Int) == 110)
         case true =>
          have m1:((s[j].toNat:Int) != 34)=true:=by simp [bne,g1]
          have m2:((s[j].toNat:Int) != 92)=true:=by simp [bne,g2]
          have m3:((s[j].toNat:Int) != 110)=false:=by simp [bne,g3]
          have hE':sZ s[j]=true:=by rw [hE,g1,g2,g3]; simp
          rw [hE'] at q'
          have HN:Hid (R=dtR s (k+2)):=hid q'
          clear q' hE hE'
          go_wp2
          go_round
          case rel=>exact ⟨k+2,by have:=HJ.out; omega,by rw [HX.out],HN⟩
          case measure=>rw [HX.out]; exact Q5.out
         case false =>
          cases g4:((s[j].toNat:Int) == 116)
          case true =>
           have m1:((s[j].toNat:Int) != 34)=true:=by simp [bne,g1]
           have m2:((s[j].toNat:Int) != 92)=true:=by simp [bne,g2]
           have m3:((s[j].toNat:Int) != 110)=true:=by simp [bne,g3]
           have m4:((s[j].toNat:Int) != 116)=false:=by simp [bne,g4]
           have hE':sZ s[j]=true:=by rw [hE,g1,g2,g3,g4]; simp
           rw [hE'] at q'
           have HN:Hid (R=dtR s (k+2)):=hid q'
           clear q' hE hE'
           go_wp2
           go_round
           case rel=>exact ⟨k+2,by have:=HJ.out; omega,by rw [HX.out],HN⟩
           case measure=>rw [HX.out]; exact Q5.out
          case false =>
           have m1:((s[j].toNat:Int) != 34)=true:=by simp [bne,g1]
           have m2:((s[j].toNat:Int) != 92)=true:=by simp [bne,g2]
           have m3:((s[j].toNat:Int) != 110)=true:=by simp [bne,g3]
           have m4:((s[j].toNat:Int) != 116)=true:=by simp [bne,g4]
           have hE':sZ s[j]=false:=by rw [hE,g1,g2,g3,g4]; simp
           rw [hE'] at q'
           have HN:Hid (R=0):=hid q'
           clear q' hE hE'
           go_wp2
           go_ret
           exact ⟨bK HN.out.symm,rfl⟩
      ·have HN:Hid (R=0):=hid (hq.out.trans (q.trans (by rw [h1,h2,h3]; simp only [cond_true,cond_false]; rw [dif_neg (by omega)])))
       have hnj:(s.size:Int)≤(j:Int):=by omega
       clear q hq hjk
       go_wp2
       go_ret
       exact ⟨bK HN.out.symm,rfl⟩
  ·have HN:=hid (hq.out.trans (Qv s k (by omega)))
   have hge:¬ (k:Int) < (s.size:Int):=by omega
   clear hq
   go_wp2
   go_ret
   exact ⟨bK HN.out.symm,rfl⟩
end Go.Proofs.YtmpmfamiegpmgaaGreatDoor
