/-
  DERIVED: THE SHELF's CONTRACTS AT THIS DUMP, IN PLAIN WORDS (tools/lay-plain.mjs out of 'TryzShelf.lean', which tools/lay-shelf.mjs wrote): THE SAME DECLARATIONS UNDER THE SAME NAMES: 'import', 'namespace', 'open', 'def', 'theorem' AND NOTHING ELSE: no command of the shelf's: FOR A HAND-IN. Each laying: the table of numbers ('.._ren') and one theorem, a field a fact of the dump's own or the kernel's comparison; each contract: ONE APPLICATION.; What all walks of this seat share: bytes and their kinds, rows of texts as they lie in memory.; Keywords and marks: the rows, and which texts are on them.; Rows of texts: is a text on one; the rows of marks and keywords that the document's side makes.; Is each byte of a text as asked: rests, signs' bytes.; Kind, by the way of the program.; pass, for any machine.; What the tokens of a text are, by the way of the program: a plain model on lists of bytes.
-/
import Derived.Shelf.Small.Strs
import Derived.Shelf.Strings.Search1
import Derived.Shelf.Strings.Prefix
import Derived.Test.YtmpmfamiegpmgaaGreatDoorProg
import Derived.KernelRfl
import Derived.RowKit
import Derived.WalkKit
import Derived.WalkLawsBesides
import Derived.Below
import Derived.Deep.Draws
import Derived.Lib.Hide
import Derived.Handy
import Derived.RegionTactic
import Derived.ChangeAlike
import Derived.Deep.QuietTactic
import Derived.BigQuiet
import Derived.Laws.AppendOwn
import Derived.Laws.OwnMore
import Derived.IntWalk
import Derived.Lib.IndexAny
import Derived.Lib.Strings
import Derived.Laws.Rows
import Derived.ScopeJumps
import Derived.WalkMore
namespace Go.Proofs
open Go.Shelf
def Tryz.lays137_ren:Go.Shelf.Ren:=⟨fun | 137=>155 | 217=>199 | 266=>254 | n=>n,fun | 9=>9 | 5=>5 | 3=>3 | n=>n,fun | n=>n⟩
theorem Tryz.lays137:Go.Proofs.Lays.n137 Tryz.prog Tryz.lays137_ren:={
 mixed:=by kernel_rfl
 f137:=Tryz.func155.trans (congrArg some (by kernel_rfl))
 f217:=Tryz.func199.trans (congrArg some (by kernel_rfl))
 f266:=Tryz.func254.trans (congrArg some (by kernel_rfl))
 t3:=Tryz.underlying3
 a3:=Tryz.isAgg3
 z3:=Tryz.sizeOf3
 v3:=Tryz.zeroValue3
 t5:=Tryz.underlying5
 a5:=Tryz.isAgg5
 z5:=Tryz.sizeOf5
 v5:=Tryz.zeroValue5
 t9:=Tryz.underlying9
 a9:=Tryz.isAgg9
 z9:=Tryz.sizeOf9
 v9:=Tryz.zeroValue9 }
open Go.RowKit in
theorem Tryz.strings_IndexByte (s:ByteArray) (c:Int) (w:World) :
  Calls Tryz.prog 155 #[.string s,.int .u8 c] w fun e w'=>e=.returned (.int .i64 (Lib.indexByte s.data.toList c.toNat.toUInt8))∧w'=w:=Any.strings_IndexByte Tryz.lays137 s c w
def Tryz.lays217_ren:Go.Shelf.Ren:=⟨fun | 217=>199 | 266=>254 | n=>n,fun | 9=>9 | 5=>5 | 3=>3 | n=>n,fun | n=>n⟩
def Tryz.lays206_ren:Go.Shelf.Ren:=⟨fun | 206=>293 | n=>n,fun | 9=>9 | 4=>4 | 3=>3 | n=>n,fun | n=>n⟩
def Tryz.lays99_ren:Go.Shelf.Ren:=⟨fun | 99=>263 | 206=>293 | n=>n,fun | 9=>9 | 4=>4 | 3=>3 | n=>n,fun | n=>n⟩
theorem Tryz.lays99:Go.Proofs.Lays.n99 Tryz.prog Tryz.lays99_ren:={
 mixed:=by kernel_rfl
 f99:=Tryz.func263.trans (congrArg some (by kernel_rfl))
 f206:=Tryz.func293.trans (congrArg some (by kernel_rfl))
 t3:=Tryz.underlying3
 a3:=Tryz.isAgg3
 z3:=Tryz.sizeOf3
 v3:=Tryz.zeroValue3
 t4:=Tryz.underlying4
 a4:=Tryz.isAgg4
 z4:=Tryz.sizeOf4
 v4:=Tryz.zeroValue4
 t9:=Tryz.underlying9
 a9:=Tryz.isAgg9
 z9:=Tryz.sizeOf9
 v9:=Tryz.zeroValue9 }
open Go.RowKit Go.Lib in
theorem Tryz.strings_HasPrefix (s p:ByteArray) (w:World) :
  Calls Tryz.prog 263 #[.string s,.string p] w fun e w'=>e=.returned (.bool (Lib.hasPrefix s.data.toList p.data.toList))∧w'=w:=Any.strings_HasPrefix Tryz.lays99 s p w
end Go.Proofs

namespace Go.Proofs.YtmpmfamiegpmgaaGreatDoor
open Tryz
open Go.Lib (hid toList_data)
open Go.RowKit
set_option linter.unusedVariables false
theorem aK {a b:Bool} (h:a=b):Ending.returned (.bool a)=.returned (.bool b):=by rw [h]
theorem dD {k:IntKind} {a b:Int} (h:a=b):Ending.returned (.int k a)=.returned (.int k b):=by rw [h]
theorem below_drewN {N:Nat} {w w1:World} (h:Below N w w1) (n:Nat):Below N w (w1.drewN n):=⟨h.os,h.tape,h.output,h.size,h.block⟩
def At (w:World) (b off:Nat) (l:List ByteArray):Prop :=
 ∀ i,(h:i < l.length)→w.cell? ⟨b,off+i,none⟩=some (.string l[i])
theorem At.step {w w1:World} {b off:Nat} {l:List ByteArray} (h:At w b off l) (hb:b < w.heap.size) (hw:Below w.heap.size w w1):At w1 b off l :=
 fun i hi=>(hw.cell (p:=⟨b,_,none⟩) hb).trans (h i hi)
def In (w:World) (p:Option Addr) (n cap:Nat) (l:List ByteArray):Prop :=
 n=l.length∧(n=0∨∃ b off,p=some ⟨b,off,none⟩∧n≤cap∧b < w.heap.size∧At w b off l)
def bs (s:ByteArray):List UInt8:=s.data.toList
def jO (c:UInt8):Bool:=decide (97≤c.toNat∧c.toNat≤122)
def lT (c:UInt8):Bool:=decide (65≤c.toNat∧c.toNat≤90)
def jv (c:UInt8):Bool:=decide (48≤c.toNat∧c.toNat≤57)
def dI (c:UInt8):Bool:=jO c || lT c || jv c || ((c.toNat:Int) == 95) || ((c.toNat:Int) == 39)
def qO:List UInt8:=[33,37,38,36,35,43,45,47,58,60,61,62,63,64,92,126,96,94,124,42]
def dH (c:UInt8):Bool:=qO.contains c
theorem yO (c:UInt8) (w:World):Calls prog 152 #[.int .u8 (c.toNat:Int)] w fun e w'=>e=.returned (.bool (jO c))∧w=w':=by
 have hc:=c.toNat_lt
 by_cases h1:97≤c.toNat
 ·have h:Hid (jO c=decide ((c.toNat:Int)≤122)):=hid (by unfold jO; rw [Bool.eq_iff_iff]; simp; omega)
  go_enter func152,ntmps152
  go_wp2
  go_ret
  exact ⟨aK h.out.symm,rfl⟩
 ·have h:Hid (jO c=false):=hid (by unfold jO; simp; omega)
  go_enter func152,ntmps152
  go_wp2
  go_ret
  exact ⟨aK h.out.symm,rfl⟩
theorem GL (c:UInt8) (w:World):Calls prog 153 #[.int .u8 (c.toNat:Int)] w fun e w'=>e=.returned (.bool (lT c))∧w=w':=by
 have hc:=c.toNat_lt
 by_cases h1:65≤c.toNat
 ·have h:Hid (lT c=decide ((c.toNat:Int)≤90)):=hid (by unfold lT; rw [Bool.eq_iff_iff]; simp; omega)
  go_enter func153,ntmps153
  go_wp2
  go_ret
  exact ⟨aK h.out.symm,rfl⟩
 ·have h:Hid (lT c=false):=hid (by unfold lT; simp; omega)
  go_enter func153,ntmps153
  go_wp2
  go_ret
  exact ⟨aK h.out.symm,rfl⟩
theorem O7 (c:UInt8) (w:World):Calls prog 154 #[.int .u8 (c.toNat:Int)] w fun e w'=>e=.returned (.bool (jv c))∧w=w':=by
 have hc:=c.toNat_lt
 by_cases h1:48≤c.toNat
 ·have h:Hid (jv c=decide ((c.toNat:Int)≤57)):=hid (by unfold jv; rw [Bool.eq_iff_iff]; simp; omega)
  go_enter func154,ntmps154
  go_wp2
  go_ret
  exact ⟨aK h.out.symm,rfl⟩
 ·have h:Hid (jv c=false):=hid (by unfold jv; simp; omega)
  go_enter func154,ntmps154
  go_wp2
  go_ret
  exact ⟨aK h.out.symm,rfl⟩
theorem Np (c:UInt8) (w:World):Calls prog 108 #[.int .u8 (c.toNat:Int)] w fun e w'=>e=.returned (.bool (dI c))∧w=w':=by
 have hc:=c.toNat_lt;have H1:=fun w=>yO c w
 have H2:=fun w=>GL c w
 have H3:=fun w=>O7 c w
 have HR:Hid (dI c=(jO c || lT c || jv c || ((c.toNat:Int) == 95) || ((c.toNat:Int) == 39))):=hid rfl
 cases h1:jO c <;> cases h2:lT c <;> cases h3:jv c <;> simp only [h1,h2,h3] at H1 H2 H3 HR <;> clear h1 h2 h3
 all_goals
  go_enter func108,ntmps108
  go_wp2_with (first | (go_at_call 152; refine (H1 _).mono ?_; rintro e w1 ⟨rfl,rfl⟩) | (go_at_call 153; refine (H2 _).mono ?_; rintro e w1 ⟨rfl,rfl⟩) | (go_at_call 154; refine (H3 _).mono ?_; rintro e w1 ⟨rfl,rfl⟩))
 all_goals
  go_ret
  exact ⟨aK (by rw [HR.out]; simp [*]),rfl⟩
theorem CW (c:UInt8) (w:World):Calls prog 109 #[.int .u8 (c.toNat:Int)] w fun e w'=>e=.returned (.bool (dH c))∧w=w':=by
 have hc:=c.toNat_lt;have HS:Hid (dH c=decide (0≤Lib.indexByte qO c)):=hid (Lib.contains_iff_indexByte qO c);have H1:∀ w,Calls prog 155 #[.string ⟨#[33,37,38,36,35,43,45,47,58,60,61,62,63,64,92,126,96,94,124,42]⟩,.int .u8 (c.toNat:Int)] w fun e w'=>e=.returned (.int .i64 (Lib.indexByte qO c))∧w'=w:=fun w=>by
  have h:=strings_IndexByte ⟨#[33,37,38,36,35,43,45,47,58,60,61,62,63,64,92,126,96,94,124,42]⟩ (c.toNat:Int) w;have hcc:((c.toNat:Int)).toNat.toUInt8=c:=by simp
  rw [hcc] at h;exact h
 generalize Lib.indexByte qO c=x at *
 go_enter func109,ntmps109
 go_wp2_with (go_at_call 155; refine (H1 _).mono ?_; rintro e w1 ⟨rfl,rfl⟩)
 go_ret
 exact ⟨aK (by rw [HS.out]),rfl⟩
def acN:List UInt8:=[33,37,38,36,35,43,45,47,58,60,61,62,63,64,94,124,42,126]
theorem Mc (c n:UInt8):(c=n)=((c.toNat:Int)=(n.toNat:Int)):=by
 rw [← UInt8.toNat_inj,eq_iff_iff]; omega
def kwT:List ByteArray:=[⟨#[97,110,100]⟩,⟨#[97,115]⟩,⟨#[99,97,115,101]⟩,⟨#[100,97,116,97,116,121,112,101]⟩,⟨#[101,108,115,101]⟩,⟨#[101,110,100]⟩,⟨#[102,110]⟩,⟨#[102,117,110]⟩,⟨#[102,117,110,99,116,111,114]⟩,⟨#[105,102]⟩,⟨#[105,110]⟩,⟨#[105,110,99,108,117,100,101]⟩,⟨#[108,101,116]⟩,⟨#[108,111,99,97,108]⟩,⟨#[111,102]⟩,⟨#[111,112]⟩,⟨#[111,112,101,110]⟩,⟨#[115,105,103]⟩,⟨#[115,105,103,110,97,116,117,114,101]⟩,⟨#[115,116,114,117,99,116]⟩,⟨#[115,116,114,117,99,116,117,114,101]⟩,⟨#[116,104,101,110]⟩,⟨#[116,121,112,101]⟩,⟨#[118,97,108]⟩,⟨#[119,104,101,114,101]⟩]
def inB (l:List ByteArray) (s:ByteArray):Bool:=l.any fun t=>t.toList == s.toList
theorem Tu {l:List ByteArray} {s:ByteArray} (k:Nat) (h:k < l.length) (he:((l[k]'h).toList == s.toList)=true):inB l s=true:=by
 unfold inB; rw [List.any_eq_true]; exact ⟨_,List.getElem_mem h,he⟩
theorem LX {l:List ByteArray} {s:ByteArray} (h:∀ j,(hj:j < l.length)→((l[j]'hj).toList == s.toList)=false):inB l s=false:=by
 unfold inB; rw [List.any_eq_false]; intro x hx
 obtain ⟨j,hj,e⟩:=List.getElem_of_mem hx;rw [← e,h j hj]; simp
def kwB (s:ByteArray):Bool:=inB kwT s
def mkT:List ByteArray:=[⟨#[40]⟩,⟨#[41]⟩,⟨#[44]⟩,⟨#[46]⟩,⟨#[59]⟩,⟨#[95]⟩,⟨#[61]⟩,⟨#[61,62]⟩,⟨#[124]⟩,⟨#[58]⟩,⟨#[58,62]⟩,⟨#[45,62]⟩]
def mkB (s:ByteArray):Bool:=inB mkT s
def kwV:Array Value:=(kwT.map Value.string).toArray
def Kw (w:World):Prop:=(∃ t fr,w.heap[0]?=some (.cells kwV t fr))∧At w 0 0 kwT
theorem Kw.of {w:World} {t:TypeId} {fr:Nat × Nat} (h:w.heap[0]?=some (.cells kwV t fr)):Kw w:=by
 refine ⟨⟨t,fr,h⟩,fun i hi=>?_⟩
 rw [Nat.zero_add,cell_of_row w 0 i kwV t fr h];unfold kwV
 simp [hi]
theorem Kw.pos {w:World} (h:Kw w):0 < w.heap.size:=by
 obtain ⟨⟨t,fr,h⟩,_⟩:=h;exact (Array.getElem?_eq_some_iff.1 h).1
theorem Kw.step {w w1:World} (h:Kw w) (hb:Below w.heap.size w w1):Kw w1:=by
 have hp:=h.pos;obtain ⟨⟨t,fr,h⟩,_⟩:=h;exact Kw.of (t:=t) (fr:=fr) ((hb.block 0 hp).trans h)
set_option maxHeartbeats 400000 in
theorem Bg (s:ByteArray) (w:World) (hk:Kw w):Calls prog 106 #[.string s] w fun e w'=>e=.returned (.bool (kwB s))∧w=w':=by
 have HK:=hid hk.2;clear hk
 go_enter func106,ntmps106
 go_wp2
 go_loop [4] (fun i=>∃ k:Nat,k≤25∧i=.int .i64 k∧Hid (∀ j,j < k→(hj:j < 25)→((kwT[j]'hj).toList == s.toList)=false)) (fun i=>25 - (intOf i).toNat)
 case atStart=>exact ⟨0,by omega,rfl,hid (fun j h=>by omega)⟩
 case round =>
  obtain ⟨k,hk,rfl,HJ⟩:=hrel
  by_cases hlt:k < 25
  ·have hc:w.cell? ⟨0,k,none⟩=some (.string (kwT[k]'hlt)):=by have:=HK.out k hlt; rw [Nat.zero_add] at this; exact this
   by_cases he:((kwT[k]'hlt).toList == s.toList)=true
   ·have HB:=hid (Tu (l:=kwT) k hlt he)
    generalize kwT[k]'hlt=t at hc he
    go_wp2
    go_ret
    exact ⟨aK HB.out.symm,rfl⟩
   ·have he:((kwT[k]'hlt).toList == s.toList)=false:=by simpa using he
    have HE:=hid he;generalize kwT[k]'hlt=t at hc he
    go_wp2
    go_round
    case rel =>
     refine ⟨k+1,by omega,by go_num,hid fun j hj hj2=>?_⟩
     by_cases e:j=k
     ·subst e; exact HE.out
     ·exact HJ.out j (by omega) hj2
    case measure=>simp [intOf]; omega
  ·have HB:=hid (LX (l:=kwT) (s:=s) (fun j hj=>HJ.out j (by have:kwT.length=25:=rfl; omega) hj))
   go_wp2
   go_ret
   exact ⟨aK (by unfold kwB; exact HB.out.symm),rfl⟩
theorem Ti (s:ByteArray):mkB s=((s.toList == [40]) || (s.toList == [41]) || (s.toList == [44]) || (s.toList == [46]) || (s.toList == [59]) || (s.toList == [95]) || (s.toList == [61]) || (s.toList == [61,62]) || (s.toList == [124]) || (s.toList == [58]) || (s.toList == [58,62]) || (s.toList == [45,62])):=by
 unfold mkB inB mkT;simp only [List.any_cons,List.any_nil,Bool.or_false];have hh:∀ (a:ByteArray) (l:List UInt8),a.toList=l→(a.toList == s.toList)=(s.toList == l):=fun a l h=>by rw [h]; exact Bool.beq_comm
 rw [hh ⟨#[40]⟩ [40] (by simp [toList_data])];rw [hh ⟨#[41]⟩ [41] (by simp [toList_data])];rw [hh ⟨#[44]⟩ [44] (by simp [toList_data])];rw [hh ⟨#[46]⟩ [46] (by simp [toList_data])];rw [hh ⟨#[59]⟩ [59] (by simp [toList_data])];rw [hh ⟨#[95]⟩ [95] (by simp [toList_data])];rw [hh ⟨#[61]⟩ [61] (by simp [toList_data])];rw [hh ⟨#[61,62]⟩ [61,62] (by simp [toList_data])];rw [hh ⟨#[124]⟩ [124] (by simp [toList_data])];rw [hh ⟨#[58]⟩ [58] (by simp [toList_data])];rw [hh ⟨#[58,62]⟩ [58,62] (by simp [toList_data])];rw [hh ⟨#[45,62]⟩ [45,62] (by simp [toList_data])];simp only [Bool.or_assoc]
theorem L8 (s:ByteArray) (w:World):Calls prog 110 #[.string s] w fun e w'=>e=.returned (.bool (mkB s))∧w=w':=by
 have HM:=hid (Ti s)
 cases e0:(s.toList == [40])
 case true =>
  go_enter func110,ntmps110
  go_wp2
  go_ret
  exact ⟨aK (by simp [HM.out, *]),rfl⟩
 cases e1:(s.toList == [41])
 case true =>
  go_enter func110,ntmps110
  go_wp2
  go_ret
  exact ⟨aK (by simp [HM.out, *]),rfl⟩
 cases e2:(s.toList == [44])
 case true =>
  go_enter func110,ntmps110
  go_wp2
  go_ret
  exact ⟨aK (by simp [HM.out, *]),rfl⟩
 cases e3:(s.toList == [46])
 case true =>
  go_enter func110,ntmps110
  go_wp2
  go_ret
  exact ⟨aK (by simp [HM.out, *]),rfl⟩
 cases e4:(s.toList == [59])
 case true =>
  go_enter func110,ntmps110
  go_wp2
  go_ret
  exact ⟨aK (by simp [HM.out, *]),rfl⟩
 cases e5:(s.toList == [95])
 case true =>
  go_enter func110,ntmps110
  go_wp2
  go_ret
  exact ⟨aK (by simp [HM.out, *]),rfl⟩
 cases e6:(s.toList == [61])
 case true =>
  go_enter func110,ntmps110
  go_wp2
  go_ret
  exact ⟨aK (by simp [HM.out, *]),rfl⟩
 cases e7:(s.toList == [61,62])
 case true =>
  go_enter func110,ntmps110
  go_wp2
  go_ret
  exact ⟨aK (by simp [HM.out, *]),rfl⟩
 cases e8:(s.toList == [124])
 case true =>
  go_enter func110,ntmps110
  go_wp2
  go_ret
  exact ⟨aK (by simp [HM.out, *]),rfl⟩
 cases e9:(s.toList == [58])
 case true =>
  go_enter func110,ntmps110
  go_wp2
  go_ret
  exact ⟨aK (by simp [HM.out, *]),rfl⟩
 cases e10:(s.toList == [58,62])
 case true =>
  go_enter func110,ntmps110
  go_wp2
  go_ret
  exact ⟨aK (by simp [HM.out, *]),rfl⟩
 cases e11:(s.toList == [45,62])
 case true =>
  go_enter func110,ntmps110
  go_wp2
  go_ret
  exact ⟨aK (by simp [HM.out, *]),rfl⟩
 go_enter func110,ntmps110
 go_wp2
 go_ret
 exact ⟨aK (by simp [HM.out, *]),rfl⟩
def gW (s:ByteArray):Int:=match s.toList with
 | []=>0
 | c :: r=>bif jO c then 6 else bif lT c then 7 else bif dH c then 9 else bif ((c.toNat:Int) == 39) then (match r with | []=>0 | d :: _=>bif jO d then 8 else 0) else 0
theorem bT (s:ByteArray):s.data.toList.length=s.size:=(Lib.size_eq s).symm
theorem jM (s:ByteArray) (k:Nat) (h:k < s.size):s.data.toList[k]'(by rw [bT]; exact h)=s[k]:=by
 rw [Array.getElem_toList]; rfl
theorem uT (s:ByteArray) (h:s.size=1):s.toList=[s[0]]:=by
 rw [toList_data]
 apply List.ext_getElem
 ·rw [bT]; exact h
 ·intro i h1 h2
  simp at h2
  subst h2;rw [jM s 0 (by omega)]
  rfl
theorem sH (s:ByteArray) (h:1 < s.size):s.toList=s[0] :: s[1] :: s.data.toList.drop 2:=by
 rw [toList_data];have hl:=bT s;rw [← jM s 0 (by omega),← jM s 1 (by omega),List.getElem_cons_drop,List.getElem_cons_drop,List.drop_zero]
set_option maxHeartbeats 2000000 in
set_option maxRecDepth 20000 in
theorem IJ (s:ByteArray) (w:World) (hm:s.size≤9223372036854775807):Calls prog 105 #[.string s] w fun e w'=>e=.returned (.int .i64 (gW s))∧w=w':=by
 by_cases h0:s.size=0
 ·have he:s.toList=[]:=by rw [toList_data,← List.length_eq_zero_iff,← Lib.size_eq]; exact h0
  have HB:Hid (gW s=0):=hid (by unfold gW; rw [he]);have hem:s.toList.isEmpty=true:=by rw [he]; rfl
  clear he
  go_enter func105,ntmps105
  go_wp2
  go_ret
  exact ⟨dD HB.out.symm,rfl⟩
 ·have hem:s.toList.isEmpty=false:=by
   rw [toList_data]
   cases e:s.data.toList with
   | nil=>have:=Lib.size_eq s; rw [e] at this; exact absurd this h0
   | cons=>rfl
  have hp:0 < s.size:=by omega
  have HL:=fun w=>yO s[0] w
  have HC:=fun w=>GL s[0] w
  have HS:=fun w=>CW s[0] w
  by_cases h1:s.size=1
  ·have h1':s.size≤1:=by omega
   have HB:Hid (gW s=bif jO s[0] then (6:Int) else bif lT s[0] then (7:Int) else bif dH s[0] then (9:Int) else bif ((s[0].toNat:Int) == 39) then (0:Int) else (0:Int)):=hid (by unfold gW; rw [uT s h1]);clear h0 h1
   cases hHL:jO s[0]
   case true =>
    simp only [hHL,cond_true] at HL HB; clear hHL
    go_enter func105,ntmps105
    go_wp2_with (first | (go_at_call 152; refine (HL _).mono ?_; rintro e w1 ⟨rfl,rfl⟩) | (go_at_call 153; refine (HC _).mono ?_; rintro e w1 ⟨rfl,rfl⟩) | (go_at_call 109; refine (HS _).mono ?_; rintro e w1 ⟨rfl,rfl⟩))
    go_ret
    exact ⟨dD HB.out.symm,rfl⟩
   simp only [hHL,cond_false] at HL HB; clear hHL
   cases Oh:lT s[0]
   case true =>
    simp only [Oh,cond_true] at HC HB; clear Oh
    go_enter func105,ntmps105
    go_wp2_with (first | (go_at_call 152; refine (HL _).mono ?_; rintro e w1 ⟨rfl,rfl⟩) | (go_at_call 153; refine (HC _).mono ?_; rintro e w1 ⟨rfl,rfl⟩) | (go_at_call 109; refine (HS _).mono ?_; rintro e w1 ⟨rfl,rfl⟩))
    go_ret
    exact ⟨dD HB.out.symm,rfl⟩
   simp only [Oh,cond_false] at HC HB; clear Oh
   cases Ol:dH s[0]
   case true =>
    simp only [Ol,cond_true] at HS HB; clear Ol
    go_enter func105,ntmps105
    go_wp2_with (first | (go_at_call 152; refine (HL _).mono ?_; rintro e w1 ⟨rfl,rfl⟩) | (go_at_call 153; refine (HC _).mono ?_; rintro e w1 ⟨rfl,rfl⟩) | (go_at_call 109; refine (HS _).mono ?_; rintro e w1 ⟨rfl,rfl⟩))
    go_ret
    exact ⟨dD HB.out.symm,rfl⟩
   simp only [Ol,cond_false] at HS HB; clear Ol
   cases hq:((s[0].toNat:Int) == 39)
   case false =>
    simp only [hq,cond_false] at HB
    go_enter func105,ntmps105
    go_wp2_with (first | (go_at_call 152; refine (HL _).mono ?_; rintro e w1 ⟨rfl,rfl⟩) | (go_at_call 153; refine (HC _).mono ?_; rintro e w1 ⟨rfl,rfl⟩) | (go_at_call 109; refine (HS _).mono ?_; rintro e w1 ⟨rfl,rfl⟩))
    go_ret
    exact ⟨dD HB.out.symm,rfl⟩
   simp only [hq,cond_true] at HB
   go_enter func105,ntmps105
   go_wp2_with (first | (go_at_call 152; refine (HL _).mono ?_; rintro e w1 ⟨rfl,rfl⟩) | (go_at_call 153; refine (HC _).mono ?_; rintro e w1 ⟨rfl,rfl⟩) | (go_at_call 109; refine (HS _).mono ?_; rintro e w1 ⟨rfl,rfl⟩))
   go_ret
   exact ⟨dD HB.out.symm,rfl⟩
  ·have h1':1 < s.size:=by omega
   have HB:Hid (gW s=bif jO s[0] then (6:Int) else bif lT s[0] then (7:Int) else bif dH s[0] then (9:Int) else bif ((s[0].toNat:Int) == 39) then (bif jO s[1] then (8:Int) else (0:Int)) else (0:Int)):=hid (by unfold gW; rw [sH s h1']);have HD:=fun w=>yO s[1] w
   clear h0 h1
   cases hHL:jO s[0]
   case true =>
    simp only [hHL,cond_true] at HL HB; clear hHL
    go_enter func105,ntmps105
    go_wp2_with (first | (go_at_call 152; refine (HL _).mono ?_; rintro e w1 ⟨rfl,rfl⟩) | (go_at_call 153; refine (HC _).mono ?_; rintro e w1 ⟨rfl,rfl⟩) | (go_at_call 109; refine (HS _).mono ?_; rintro e w1 ⟨rfl,rfl⟩) | (go_at_call 152; refine (HD _).mono ?_; rintro e w1 ⟨rfl,rfl⟩))
    go_ret
    exact ⟨dD HB.out.symm,rfl⟩
   simp only [hHL,cond_false] at HL HB; clear hHL
   cases Oh:lT s[0]
   case true =>
    simp only [Oh,cond_true] at HC HB; clear Oh
    go_enter func105,ntmps105
    go_wp2_with (first | (go_at_call 152; refine (HL _).mono ?_; rintro e w1 ⟨rfl,rfl⟩) | (go_at_call 153; refine (HC _).mono ?_; rintro e w1 ⟨rfl,rfl⟩) | (go_at_call 109; refine (HS _).mono ?_; rintro e w1 ⟨rfl,rfl⟩) | (go_at_call 152; refine (HD _).mono ?_; rintro e w1 ⟨rfl,rfl⟩))
    go_ret
    exact ⟨dD HB.out.symm,rfl⟩
   simp only [Oh,cond_false] at HC HB; clear Oh
   cases Ol:dH s[0]
   case true =>
    simp only [Ol,cond_true] at HS HB; clear Ol
    go_enter func105,ntmps105
    go_wp2_with (first | (go_at_call 152; refine (HL _).mono ?_; rintro e w1 ⟨rfl,rfl⟩) | (go_at_call 153; refine (HC _).mono ?_; rintro e w1 ⟨rfl,rfl⟩) | (go_at_call 109; refine (HS _).mono ?_; rintro e w1 ⟨rfl,rfl⟩) | (go_at_call 152; refine (HD _).mono ?_; rintro e w1 ⟨rfl,rfl⟩))
    go_ret
    exact ⟨dD HB.out.symm,rfl⟩
   simp only [Ol,cond_false] at HS HB; clear Ol
   cases hq:((s[0].toNat:Int) == 39)
   case false =>
    simp only [hq,cond_false] at HB
    go_enter func105,ntmps105
    go_wp2_with (first | (go_at_call 152; refine (HL _).mono ?_; rintro e w1 ⟨rfl,rfl⟩) | (go_at_call 153; refine (HC _).mono ?_; rintro e w1 ⟨rfl,rfl⟩) | (go_at_call 109; refine (HS _).mono ?_; rintro e w1 ⟨rfl,rfl⟩) | (go_at_call 152; refine (HD _).mono ?_; rintro e w1 ⟨rfl,rfl⟩))
    go_ret
    exact ⟨dD HB.out.symm,rfl⟩
   simp only [hq,cond_true] at HB
   cases hd:jO s[1] <;> simp only [hd] at HD HB <;> clear hd
   all_goals
    go_enter func105,ntmps105
    go_wp2_with (first | (go_at_call 152; refine (HL _).mono ?_; rintro e w1 ⟨rfl,rfl⟩) | (go_at_call 153; refine (HC _).mono ?_; rintro e w1 ⟨rfl,rfl⟩) | (go_at_call 109; refine (HS _).mono ?_; rintro e w1 ⟨rfl,rfl⟩) | (go_at_call 152; refine (HD _).mono ?_; rintro e w1 ⟨rfl,rfl⟩))
    go_ret
    exact ⟨dD HB.out.symm,rfl⟩
theorem Gy {l:List UInt8} {f:UInt8→Bool} (k:Nat) (h:k < l.length) (he:f (l[k]'h)=false):l.all f=false:=by
 rw [List.all_eq_false]; exact ⟨_,List.getElem_mem h,by simp [he]⟩
theorem BU {l:List UInt8} {f:UInt8→Bool} (h:∀ j,(hj:j < l.length)→f (l[j]'hj)=true):l.all f=true:=by
 rw [List.all_eq_true]; intro x hx
 obtain ⟨j,hj,e⟩:=List.getElem_of_mem hx;rw [← e]; exact h j hj
def pY (s:ByteArray):Bool:=s.data.toList.all dI
def MW (s:ByteArray):Bool:=s.data.toList.all dH
set_option maxHeartbeats 400000 in
theorem uX (s:ByteArray) (w:World) (hs:s.size≤9223372036854775807):Calls prog 107 #[.string s,.func (.func 108) #[] #[]] w fun e w'=>e=.returned (.bool (pY s))∧w=w':=by
 go_enter func107,ntmps107
 go_wp2
 go_loop [8] (fun i=>∃ k:Nat,k≤s.size∧i=.int .i64 k∧Hid (∀ j,j < k→(hj:j < s.data.toList.length)→dI (s.data.toList[j]'hj)=true)) (fun i=>s.size - (intOf i).toNat)
 case atStart=>exact ⟨0,by omega,rfl,hid (fun j h=>by omega)⟩
 case round =>
  obtain ⟨k,hk,rfl,HJ⟩:=hrel
  by_cases hlt:k < s.size
  ·have H:=fun w=>Np s[k] w
   cases hr:dI s[k]
   ·have HB:=hid (Gy (f:=dI) (l:=s.data.toList) k (by rw [bT]; exact hlt) (by rw [jM s k hlt]; exact hr))
    simp only [hr] at H;clear hr
    go_wp2_with (go_at_call 108; refine (H _).mono ?_; rintro e w1 ⟨rfl,rfl⟩)
    go_ret
    exact ⟨aK HB.out.symm,rfl⟩
   ·have HE:=hid hr
    simp only [hr] at H;clear hr
    go_wp2_with (go_at_call 108; refine (H _).mono ?_; rintro e w1 ⟨rfl,rfl⟩)
    go_round
    case rel =>
     refine ⟨k+1,by omega,by go_num,hid fun j hj hj2=>?_⟩
     by_cases e:j=k
     ·subst e; rw [jM s j hlt]; exact HE.out
     ·exact HJ.out j (by omega) hj2
    case measure=>simp [intOf]; omega
  ·have HB:=hid (BU (f:=dI) (l:=s.data.toList) (fun j hj=>HJ.out j (by have:=bT s; omega) hj))
   go_wp2
   go_ret
   exact ⟨aK HB.out.symm,rfl⟩
set_option maxHeartbeats 400000 in
theorem NM (s:ByteArray) (w:World) (hs:s.size≤9223372036854775807):Calls prog 107 #[.string s,.func (.func 109) #[] #[]] w fun e w'=>e=.returned (.bool (MW s))∧w=w':=by
 go_enter func107,ntmps107
 go_wp2
 go_loop [8] (fun i=>∃ k:Nat,k≤s.size∧i=.int .i64 k∧Hid (∀ j,j < k→(hj:j < s.data.toList.length)→dH (s.data.toList[j]'hj)=true)) (fun i=>s.size - (intOf i).toNat)
 case atStart=>exact ⟨0,by omega,rfl,hid (fun j h=>by omega)⟩
 case round =>
  obtain ⟨k,hk,rfl,HJ⟩:=hrel
  by_cases hlt:k < s.size
  ·have H:=fun w=>CW s[k] w
   cases hr:dH s[k]
   ·have HB:=hid (Gy (f:=dH) (l:=s.data.toList) k (by rw [bT]; exact hlt) (by rw [jM s k hlt]; exact hr))
    simp only [hr] at H;clear hr
    go_wp2_with (go_at_call 109; refine (H _).mono ?_; rintro e w1 ⟨rfl,rfl⟩)
    go_ret
    exact ⟨aK HB.out.symm,rfl⟩
   ·have HE:=hid hr
    simp only [hr] at H;clear hr
    go_wp2_with (go_at_call 109; refine (H _).mono ?_; rintro e w1 ⟨rfl,rfl⟩)
    go_round
    case rel =>
     refine ⟨k+1,by omega,by go_num,hid fun j hj hj2=>?_⟩
     by_cases e:j=k
     ·subst e; rw [jM s j hlt]; exact HE.out
     ·exact HJ.out j (by omega) hj2
    case measure=>simp [intOf]; omega
  ·have HB:=hid (BU (f:=dH) (l:=s.data.toList) (fun j hj=>HJ.out j (by have:=bT s; omega) hj))
   go_wp2
   go_ret
   exact ⟨aK HB.out.symm,rfl⟩
def PQ (s:ByteArray):Bool:=match s.toList with
 | _ :: d :: _=>jO d
 | _=>false
theorem kM (s:ByteArray) (h:0 < s.size):gW s=bif jO s[0] then (6:Int) else bif lT s[0] then (7:Int) else bif dH s[0] then (9:Int) else bif (((s[0].toNat:Int) == 39) && PQ s) then (8:Int) else (0:Int):=by
 by_cases h1:s.size=1
 ·unfold gW PQ; rw [uT s h1]; simp
 ·unfold gW PQ; rw [sH s (by omega)]; cases e:((s[0].toNat:Int) == 39) <;> simp only [e,cond_true,cond_false,Bool.true_and,Bool.false_and]
theorem BL (s:ByteArray) (h:s.size=0):gW s=0:=by
 have he:s.toList=[]:=by rw [toList_data,← List.length_eq_zero_iff,bT]; exact h
 unfold gW; rw [he]
theorem Jf (s:ByteArray) (h:0 < s.size):s.data.toList=s[0] :: s.data.toList.drop 1:=by
 rw [← jM s 0 h,List.getElem_cons_drop,List.drop_zero]
theorem Iz (s:ByteArray) (h:0 < s.size):pY s=(dI s[0] && pY (s.extract 1 s.size)):=by
 unfold pY;have e1:(s.extract 1 s.size).data.toList=s.data.toList.drop 1:=by
  rw [Lib.extract_data,List.take_of_length_le (by rw [List.length_drop,bT]; omega)]
 rw [e1,← List.all_cons,← Jf s h]
theorem MJ (c:UInt8) (h:jO c=true):dI c=true:=by unfold dI; rw [h]; simp
theorem NP (c:UInt8) (h:lT c=true):dI c=true:=by unfold dI; rw [h]; simp
theorem I9 (c:UInt8) (h:((c.toNat:Int) == 39)=true):dI c=true:=by unfold dI; rw [h]; simp
def eH (s:ByteArray):Int:=bif mkB s then 11 else bif gW s == 9 then (bif MW s then 9 else 0) else bif gW s == 0 then 0 else bif pY s then (bif gW s == 6 && kwB s then 10 else gW s) else 0
theorem GH {l:List ByteArray} {s:ByteArray} (h:inB l s=true):s ∈ l:=by
 unfold inB at h;rw [List.any_eq_true] at h;obtain ⟨t,ht,e⟩:=h
 have:t=s:=by
  have e:=beq_iff_eq.1 e;rw [toList_data,toList_data] at e;rw [← Lib.mk_data t,← Lib.mk_data s,e]
 rw [← this]; exact ht
theorem Td (s:ByteArray) (h:mkB s=true):gW s=9∨gW s=0:=by
 have hm:=GH h;simp only [mkT,List.mem_cons,List.not_mem_nil,or_false] at hm
 rcases hm with e | e | e | e | e | e | e | e | e | e | e | e <;> subst e <;> rw [kM _ (by decide)] <;> decide
theorem NY (s:ByteArray) (h:kwB s=true):gW s=6∧pY s=true:=by
 have hm:=GH h;simp only [kwT,List.mem_cons,List.not_mem_nil,or_false] at hm
 rcases hm with e | e | e | e | e | e | e | e | e | e | e | e | e | e | e | e | e | e | e | e | e | e | e | e | e <;> subst e <;> (constructor; (rw [kM _ (by decide)]; decide); decide)
theorem Ie (s:ByteArray):gW s=0∨gW s=6∨gW s=7∨gW s=8∨gW s=9:=by
 by_cases h:0 < s.size
 ·rw [kM s h]; cases jO s[0] <;> cases lT s[0] <;> cases dH s[0] <;> cases ((s[0].toNat:Int) == 39) <;> cases PQ s <;> simp
 ·rw [BL s (by omega)]; simp
theorem ND (s:ByteArray) (h:gW s=6∨gW s=7∨gW s=8):mkB s=false:=by
 cases e:mkB s
 ·rfl
 ·have:=Td s e; omega
theorem Tj (s:ByteArray) (h:gW s≠6):kwB s=false:=by
 cases e:kwB s
 ·rfl
 ·exact absurd (NY s e).1 h
theorem lX (s:ByteArray) (h:gW s=6∨gW s=7∨gW s=8):0 < s.size∧pY s=pY (s.extract 1 s.size):=by
 by_cases h0:0 < s.size
 ·refine ⟨h0,?_⟩
  rw [Iz s h0]
  have:dI s[0]=true:=by
   rw [kM s h0] at h
   cases e1:jO s[0]
   ·cases e2:lT s[0]
    ·cases e3:dH s[0]
     ·cases e4:((s[0].toNat:Int) == 39)
      ·simp [e1,e2,e3,e4] at h
      ·exact I9 _ e4
     ·simp [e1,e2,e3] at h
    ·exact NP _ e2
   ·exact MJ _ e1
  rw [this,Bool.true_and]
 ·rw [BL s (by omega)] at h; omega
set_option linter.unusedSimpArgs false
theorem LJ (s:ByteArray) (h:gW s=6):eH s=bif kwB s then 10 else bif pY (s.extract 1 s.size) then 6 else 0:=by
 have hm:=ND s (.inl h);have hf:=(lX s (.inl h)).2;unfold eH;rw [hm,h,← hf]
 cases hk:kwB s
 ·cases pY s <;> rfl
 ·rw [(NY s hk).2]; rfl
theorem uY (s:ByteArray) (x:Int) (hx:x=7∨x=8) (h:gW s=x):eH s=bif pY (s.extract 1 s.size) then x else 0:=by
 have hm:=ND s (by omega);have hf:=(lX s (by omega)).2;have hk:=Tj s (by omega);unfold eH;rw [hm,h,← hf,hk]
 rcases hx with e | e <;> subst e <;> cases pY s <;> rfl
theorem Jj (s:ByteArray) (h:gW s=9):eH s=bif MW s && !mkB s then 9 else bif mkB s then 11 else 0:=by
 unfold eH;rw [h]
 cases mkB s <;> cases MW s <;> rfl
theorem Iy (s:ByteArray) (h:gW s=0):eH s=bif mkB s then 11 else 0:=by
 unfold eH;rw [h]
 cases mkB s <;> rfl
set_option maxHeartbeats 1000000 in
theorem LC (s:ByteArray) (w:World) (hk:Kw w) (hs:s.size≤9223372036854775807):Calls prog 69 #[.string s] w fun e w'=>e=.returned (.int .i64 (eH s))∧w=w':=by
 have HB:=IJ s w hs;have HM:=L8 s w
 rcases Ie s with h | h | h | h | h
 ·have HN:=hid (Iy s h)
  rw [h] at HB;clear h hk
  cases hm:mkB s <;> simp only [hm,cond_true,cond_false] at HN HM <;> clear hm
  all_goals
   go_enter func69,ntmps69
   go_wp2_with (first | (go_at_call 105; refine HB.mono ?_; rintro e w1 ⟨rfl,rfl⟩) | (go_at_call 110; refine HM.mono ?_; rintro e w1 ⟨rfl,rfl⟩))
   go_ret
   exact ⟨dD HN.out.symm,rfl⟩
 ·have HN:=hid (LJ s h)
  have hp:=(lX s (.inl h)).1;have HK:=Bg s w hk;have HA:=uX (s.extract 1 s.size) w (by simp; omega);rw [h] at HB;clear h hk
  cases hm:kwB s
  case true =>
   simp only [hm,cond_true,cond_false] at HN HK;clear hm HA
   go_enter func69,ntmps69
   go_wp2_with (first | (go_at_call 105; refine HB.mono ?_; rintro e w1 ⟨rfl,rfl⟩) | (go_at_call 106; refine HK.mono ?_; rintro e w1 ⟨rfl,rfl⟩))
   go_ret
   exact ⟨dD HN.out.symm,rfl⟩
  simp only [hm,cond_true,cond_false] at HN HK;clear hm
  cases hm:pY (s.extract 1 s.size) <;> simp only [hm,cond_true,cond_false] at HN HA <;> clear hm
  all_goals
   go_enter func69,ntmps69
   go_wp2_with (first | (go_at_call 105; refine HB.mono ?_; rintro e w1 ⟨rfl,rfl⟩) | (go_at_call 106; refine HK.mono ?_; rintro e w1 ⟨rfl,rfl⟩) | (go_at_call 107; refine HA.mono ?_; rintro e w1 ⟨rfl,rfl⟩))
   go_ret
   exact ⟨dD HN.out.symm,rfl⟩
 ·have HN:=hid (uY s 7 (.inl rfl) h)
  have hp:=(lX s (.inr (.inl h))).1;have HA:=uX (s.extract 1 s.size) w (by simp; omega);rw [h] at HB;clear h hk
  cases hm:pY (s.extract 1 s.size) <;> simp only [hm,cond_true,cond_false] at HN HA <;> clear hm
  all_goals
   go_enter func69,ntmps69
   go_wp2_with (first | (go_at_call 105; refine HB.mono ?_; rintro e w1 ⟨rfl,rfl⟩) | (go_at_call 107; refine HA.mono ?_; rintro e w1 ⟨rfl,rfl⟩))
   go_ret
   exact ⟨dD HN.out.symm,rfl⟩
 ·have HN:=hid (uY s 8 (.inr rfl) h)
  have hp:=(lX s (.inr (.inr h))).1;have HA:=uX (s.extract 1 s.size) w (by simp; omega);rw [h] at HB;clear h hk
  cases hm:pY (s.extract 1 s.size) <;> simp only [hm,cond_true,cond_false] at HN HA <;> clear hm
  all_goals
   go_enter func69,ntmps69
   go_wp2_with (first | (go_at_call 105; refine HB.mono ?_; rintro e w1 ⟨rfl,rfl⟩) | (go_at_call 107; refine HA.mono ?_; rintro e w1 ⟨rfl,rfl⟩))
   go_ret
   exact ⟨dD HN.out.symm,rfl⟩
 ·have HN:=hid (Jj s h)
  have HA:=NM s w hs;rw [h] at HB;clear h hk
  cases hm:mkB s <;> cases ha:MW s <;> simp only [hm,ha,cond_true,cond_false,Bool.not_true,Bool.not_false,Bool.and_true,Bool.and_false] at HN HM HA <;> clear hm ha
  all_goals
   go_enter func69,ntmps69
   go_wp2_with (first | (go_at_call 105; refine HB.mono ?_; rintro e w1 ⟨rfl,rfl⟩) | (go_at_call 107; refine HA.mono ?_; rintro e w1 ⟨rfl,rfl⟩) | (go_at_call 110; refine HM.mono ?_; rintro e w1 ⟨rfl,rfl⟩))
   go_ret
   exact ⟨dD HN.out.symm,rfl⟩
def aQ {σ:Type} (f:σ→UInt8→σ × Bool):σ→List UInt8→Nat
 | _,[]=>0
 | s,c :: r=>bif (f s c).2 then aQ f (f s c).1 r+1 else 0
theorem eu {σ:Type} (f:σ→UInt8→σ × Bool) (s:σ) (l:List UInt8):aQ f s l≤l.length:=by
 induction l generalizing s with
 | nil=>simp [aQ]
 | cons c r ih=>simp only [aQ,List.length_cons]; have:=ih (f s c).1; cases (f s c).2 <;> simp <;> omega
theorem drop_at (s:ByteArray) (k:Nat) (h:k < s.size):s.data.toList.drop k=s[k] :: s.data.toList.drop (k+1):=by
 rw [← jM s k h,List.getElem_cons_drop]
theorem MI {σ:Type} (f:σ→UInt8→σ × Bool) (q:σ) (s:ByteArray) (k:Nat) (h:k < s.size):aQ f q (s.data.toList.drop k)=bif (f q s[k]).2 then aQ f (f q s[k]).1 (s.data.toList.drop (k+1))+1 else 0:=by
 rw [drop_at s k h]; rfl
theorem Ji {σ:Type} (f:σ→UInt8→σ × Bool) (q:σ) (s:ByteArray) (k:Nat) (h:s.size≤k):aQ f q (s.data.toList.drop k)=0:=by
 rw [List.drop_eq_nil_of_le (by rw [bT]; exact h)]; rfl
theorem Exit.jump_mono {l:Nat} {J J':Act→World→Prop} {Q:Exit→Act→World→Prop} (h:∀ a w,J a w→J' a w):∀ e a w,Exit.jump l J Q e a w→Exit.jump l J' Q e a w:=by
 intro e a w he
 cases e <;> first | exact he | exact ⟨he.1,h _ _ he.2⟩
theorem uV {P:Program} {a:Act} {w:World} {Q:Exit→Act→World→Prop} {rest:Code} (l:Nat) (J:Act→World→Prop) (μ:Act→World→Nat)
  (h0:J a w) (pass:∀ a w,J a w→rest.wp P (Exit.jump l (fun a' w'=>J a' w'∧μ a' w' < μ a w) Q) a w):(Code.scope ((Code.label l).seq rest)).wp P Q a w:=by
 have hs:∀ a w,J a w→(Code.skip.seq rest).wp P (Exit.jump l (fun a' w'=>J a' w'∧μ a' w' < μ a w) Q) a w:=fun a w h=>wp_seq (wp_skip (pass a w h))
 refine wp_scope_jumps l J μ (by simp [findLabel]) ?_ hs
 exact wp_seq (wp_label (wp_mono (pass a w h0) (Exit.jump_mono fun _ _ h=>h.1)))
set_option maxHeartbeats 1000000 in
theorem uK {σ:Type} (f:σ→UInt8→σ × Bool) (J:Nat→σ→World→Prop) (n:Nat) (cap:Array Value)
  (hcf:∀ args w,Sem.run prog (callFunc n args) w=.ok (.enter n args) w) (s:ByteArray) (hs:s.size≤1000000)
  (H:∀ k q c w,k < s.size→J k q w→Calls prog n (#[.int .u8 (c.toNat:Int)]++cap) w fun e w'=>e=.returned (.bool (f q c).2)∧J (k+1) (f q c).1 w')
  (at0:Nat) (ha:at0≤s.size) (q0:σ) (w:World) (h0:J at0 q0 w) :
  Calls prog 261 #[.string s,.int .i64 at0,.func (.func n) #[] cap] w fun e w'=>e=.returned (.int .i64 ((at0+aQ f q0 (s.data.toList.drop at0):Nat)))∧∃ k q,J k q w':=by
 have HH:=hid H;clear H
 go_enter func261,ntmps261
 go_wp2
 refine uV 0 (fun a' w'=>∃ (k:Nat) (q:σ) (u7 u8 u9 u10 u11 u12 u13 u14 u15 u16 u17 u18 u19 u20:Value),k≤s.size∧Hid (at0+aQ f q0 (s.data.toList.drop at0)=k+aQ f q (s.data.toList.drop k))∧Hid (J k q w')∧a'={ tmps:=#[.string s,.int .i64 k,.func (.func n) #[] cap,undef,undef,undef,.int .i64 0,u7,u8,u9,u10,u11,u12,u13,u14,u15,u16,u17,u18,u19,u20],defers:=[] }) (fun a' _=>s.size - (intOf (a'.tmps.getD 1 undef)).toNat) ⟨at0,q0,undef,undef,undef,undef,undef,undef,undef,undef,undef,undef,undef,undef,undef,undef,ha,hid rfl,hid h0,rfl⟩ ?_
 rintro a' w' ⟨k,q,u7,u8,u9,u10,u11,u12,u13,u14,u15,u16,u17,u18,u19,u20,hk,HP,HJ,rfl⟩
 by_cases hlt:k < s.size
 ·have HX:=HH.out k q s[k] w' hlt HJ.out
  have hA:=MI f q s k hlt
  cases hb:(f q s[k]).2
  ·rw [hb,cond_false] at hA
   rw [hb] at HX;have HE:Hid (at0+aQ f q0 (s.data.toList.drop at0)=k):=hid (by rw [HP.out,hA]; rfl);clear hA hb
   go_wp2_with fail
   refine HX.mono ?_
   rintro e w1 ⟨rfl,h1⟩;have H1:=hid h1;clear h1
   go_wp2
   simp only [Exit.jump]
   go_ret
   exact ⟨dD (by rw [HE.out]),_,_,H1.out⟩
  ·rw [hb,cond_true] at hA
   rw [hb] at HX;have HE:Hid (at0+aQ f q0 (s.data.toList.drop at0)=k+1+aQ f (f q s[k]).1 (s.data.toList.drop (k+1))):=hid (by rw [HP.out,hA]; omega);clear hA hb
   go_wp2_with fail
   refine HX.mono ?_
   rintro e w1 ⟨rfl,h1⟩;have H1:=hid h1;clear h1
   go_wp2
   go_step3
   refine ⟨rfl,⟨k+1,_,_,_,_,_,_,_,_,_,_,_,_,_,_,_,hlt,HE,H1,by go_num⟩,?_⟩
   simp [intOf]; omega
 ·have HE:Hid (at0+aQ f q0 (s.data.toList.drop at0)=k):=hid (by rw [HP.out,Ji f q s k (by omega)]; rfl)
  go_wp2
  simp only [Exit.jump]
  go_ret
  exact ⟨dD (by rw [HE.out]),_,_,HJ.out⟩
def eqB (c:UInt8) (n:Int):Bool:=(c.toNat:Int) == n
def gI (c:UInt8):Bool:=eqB c 32 || eqB c 9 || eqB c 10 || eqB c 13
def cu (g:UInt8→Bool):Unit→UInt8→Unit × Bool:=fun _ c=>((),g c)
def qF:Bool→UInt8→Bool × Bool:=fun e c=>bif e then (false,eqB c 34 || eqB c 92 || eqB c 110 || eqB c 116) else (eqB c 92,!eqB c 34 && !eqB c 10)
def nF:Int × UInt8→UInt8→(Int × UInt8) × Bool:=fun q c =>
 bif eqB q.2 40 && eqB c 42 then ((q.1+1,0),true) else bif eqB q.2 42 && eqB c 41 then ((q.1 - 1,0),decide (0 < q.1 - 1)) else ((q.1,c),true)
def pg (c:UInt8):Bool:=!eqB c 10
def headB (l:List UInt8) (n:Int):Bool:=match l with | []=>false | c :: _=>eqB c n
def gQ (r:List UInt8):Int × Nat :=
 let n:=aQ qF false r
 bif headB (r.drop n) 34 then (5,n+2) else (3,n+1+aQ (cu pg) () (r.drop n))
def ja (l:List UInt8):Int × Nat :=
 let n:=aQ nF (0,0) l
 bif n == l.length then (3,n) else (2,n+1)
def bsOf (l:List UInt8):ByteArray:=⟨l.toArray⟩
def dA (p:List UInt8):Int:=match p with
 | []=>3
 | c :: _=>bif jv c then (bif aQ (cu jv) () p == p.length then 4 else 3) else bif eH (bsOf p) == 0 then 3 else eH (bsOf p)
def dJ (l:List UInt8):Int × Nat:=match l with
 | []=>(0,0)
 | c :: r =>
  bif gI c then (1,aQ (cu gI) () l)
  else bif eqB c 34 then gQ r
  else bif eqB c 40 && headB r 42 then ja l
  else bif dI c then (dA (l.take (aQ (cu dI) () l)),aQ (cu dI) () l)
  else bif dH c then (dA (l.take (aQ (cu dH) () l)),aQ (cu dH) () l)
  else (dA (l.take 1),1)
structure Tok where
 k:Int
 a:Nat
 e:Nat
def eG:Nat→Nat→List UInt8→List Tok
 | 0,_,_=>[]
 | n+1,a,l=>bif l.isEmpty then [] else ⟨(dJ l).1,a,a+(dJ l).2⟩ :: eG n (a+(dJ l).2) (l.drop (dJ l).2)
def aa4 (l:List UInt8):List Tok:=eG l.length 0 l++[⟨0,l.length,l.length⟩]
theorem nY {g:UInt8→Bool} {c:UInt8} {r:List UInt8} (h:g c=true):0 < aQ (cu g) () (c :: r):=by
 simp [aQ,cu,h]
theorem zK (r:List UInt8):0 < (gQ r).2∧(gQ r).2≤r.length+1:=by
 have h1:=eu qF false r;unfold gQ
 simp only
 cases h:headB (r.drop (aQ qF false r)) 34
 ·have h2:=eu (cu pg) () (r.drop (aQ qF false r))
  simp at h2 ⊢; omega
 ·have:aQ qF false r < r.length:=by
   apply Nat.lt_of_not_le
   intro hle;rw [List.drop_eq_nil_of_le hle] at h
   simp [headB] at h
  simp; omega
theorem Dc (l:List UInt8) (h:0 < l.length):0 < (ja l).2∧(ja l).2≤l.length:=by
 have h1:=eu nF (0,0) l;unfold ja
 simp only
 cases e:(aQ nF (0,0) l == l.length)
 ·simp at e ⊢; omega
 ·simp at e ⊢; omega
theorem mW (l:List UInt8) (h:l≠[]):0 < (dJ l).2∧(dJ l).2≤l.length:=by
 cases l with
 | nil=>exact absurd rfl h
 | cons c r =>
  unfold dJ
  simp only
  cases h1:gI c
  ·cases h2:eqB c 34
   ·cases h3:(eqB c 40 && headB r 42)
    ·cases h4:dI c
     ·cases h5:dH c
      ·simp
      ·exact ⟨nY h5,eu _ _ _⟩
     ·exact ⟨nY h4,eu _ _ _⟩
    ·exact Dc _ (by simp)
   ·have:=zK r
    exact ⟨this.1,by simpa using this.2⟩
  ·exact ⟨nY h1,eu _ _ _⟩
theorem Et (n m:Nat) (a:Nat) (l:List UInt8) (hn:l.length≤n) (hm:l.length≤m):eG n a l=eG m a l:=by
 induction n generalizing m a l with
 | zero =>
  have:l=[]:=List.length_eq_zero_iff.1 (by omega)
  subst this
  cases m <;> simp [eG]
 | succ n ih =>
  cases l with
  | nil=>cases m <;> simp [eG]
  | cons c r =>
   cases m with
   | zero=>simp at hm
   | succ m =>
    have hb:=mW (c :: r) (by simp);simp only [eG,List.isEmpty_cons,cond_false];rw [ih m _ _ (by simp at hn ⊢; omega) (by simp at hm ⊢; omega)]
theorem PW (s:ByteArray) (a:Nat) (h:a < s.size):eG s.size a (s.data.toList.drop a)=⟨(dJ (s.data.toList.drop a)).1,a,a+(dJ (s.data.toList.drop a)).2⟩ :: eG s.size (a+(dJ (s.data.toList.drop a)).2) (s.data.toList.drop (a+(dJ (s.data.toList.drop a)).2)):=by
 have hl:(s.data.toList.drop a).length≤s.size:=by rw [List.length_drop,bT]; omega
 rw [Et s.size (s.size+1) a _ hl (by omega)];simp only [eG];rw [List.drop_drop];rw [drop_at s a h]
 simp
theorem Md (s:ByteArray) (a n:Nat) (h:s.size≤a):eG n a (s.data.toList.drop a)=[]:=by
 rw [List.drop_eq_nil_of_le (by rw [bT]; exact h)]
 cases n <;> simp [eG]
end Go.Proofs.YtmpmfamiegpmgaaGreatDoor
