/-
  DERIVED: THE SHELF's CONTRACTS AT THIS DUMP, IN PLAIN WORDS (tools/lay-plain.mjs out of 'TryzShelf.lean', which tools/lay-shelf.mjs wrote): THE SAME DECLARATIONS UNDER THE SAME NAMES: 'import', 'namespace', 'open', 'def', 'theorem' AND NOTHING ELSE: no command of the shelf's: FOR A HAND-IN. Each laying: the table of numbers ('.._ren') and one theorem, a field a fact of the dump's own or the kernel's comparison; each contract: ONE APPLICATION.; What all walks of this seat share: bytes and their kinds, rows of texts as they lie in memory.; Keywords and marks: the rows, and which texts are on them.; Rows of texts: is a text on one; the rows of marks and keywords that the document's side makes.; Is each byte of a text as asked: rests, signs' bytes.; Kind, by the way of the program.; pass, for any machine.; What the tokens of a text are, by the way of the program: a plain model on lists of bytes.
-/
import Derived.Shelf.Small.Strs
import Derived.Shelf.Strings.Search1
import Derived.Shelf.Strings.Prefix
import Derived.Test.YtmpmfamiegpmgaaGreatDoorProg
import Derived.KernelRfl
import Derived.RowKit
import Derived.WalkKit
import Derived.WalkLawsBesides
import Derived.Below
import Derived.Deep.Draws
import Derived.Lib.Hide
import Derived.Handy
import Derived.RegionTactic
import Derived.ChangeAlike
import Derived.Deep.QuietTactic
import Derived.BigQuiet
import Derived.Laws.AppendOwn
import Derived.Laws.OwnMore
import Derived.IntWalk
import Derived.Lib.IndexAny
import Derived.Lib.Strings
import Derived.Laws.Rows
import Derived.ScopeJumps
import Derived.WalkMore
namespace Go.Proofs
open Go.Shelf
def Tryz.lays137_ren:Go.Shelf.Ren:=⟨fun | 137=>155 | 217=>199 | 266=>254 | n=>n,fun | 9=>9 | 5=>5 | 3=>3 | n=>n,fun | n=>n⟩
theorem Tryz.lays137:Go.Proofs.Lays.n137 Tryz.prog Tryz.lays137_ren:={
 mixed:=by kernel_rfl
 f137:=Tryz.func155.trans (congrArg some (by kernel_rfl))
 f217:=Tryz.func199.trans (congrArg some (by kernel_rfl))
 f266:=Tryz.func254.trans (congrArg some (by kernel_rfl))
 t3:=Tryz.underlying3
 a3:=Tryz.isAgg3
 z3:=Tryz.sizeOf3
 v3:=Tryz.zeroValue3
 t5:=Tryz.underlying5
 a5:=Tryz.isAgg5
 z5:=Tryz.sizeOf5
 v5:=Tryz.zeroValue5
 t9:=Tryz.underlying9
 a9:=Tryz.isAgg9
 z9:=Tryz.sizeOf9
 v9:=Tryz.zeroValue9 }
open Go.RowKit in
theorem Tryz.strings_IndexByte (s:ByteArray) (c:Int) (w:World) :
  Calls Tryz.prog 155 #[.string s,.int .u8 c] w fun e w'=>e=.returned (.int .i64 (Lib.indexByte s.data.toList c.toNat.toUInt8))∧w'=w:=Any.strings_IndexByte Tryz.lays137 s c w
def Tryz.lays217_ren:Go.Shelf.Ren:=⟨fun | 217=>199 | 266=>254 | n=>n,fun | 9=>9 | 5=>5 | 3=>3 | n=>n,fun | n=>n⟩
def Tryz.lays206_ren:Go.Shelf.Ren:=⟨fun | 206=>293 | n=>n,fun | 9=>9 | 4=>4 | 3=>3 | n=>n,fun | n=>n⟩
def Tryz.lays99_ren:Go.Shelf.Ren:=⟨fun | 99=>263 | 206=>293 | n=>n,fun | 9=>9 | 4=>4 | 3=>3 | n=>n,fun | n=>n⟩
theorem Tryz.lays99:Go.Proofs.Lays.n99 Tryz.prog Tryz.lays99_ren:={
 mixed:=by kernel_rfl
 f99:=Tryz.func263.trans (congrArg some (by kernel_rfl))
 f206:=Tryz.func293.trans (congrArg some (by kernel_rfl))
 t3:=Tryz.underlying3
 a3:=Tryz.isAgg3
 z3:=Tryz.sizeOf3
 v3:=Tryz.zeroValue3
 t4:=Tryz.underlying4
 a4:=Tryz.isAgg4
 z4:=Tryz.sizeOf4
 v4:=Tryz.zeroValue4
 t9:=Tryz.underlying9
 a9:=Tryz.isAgg9
 z9:=Tryz.sizeOf9
 v9:=Tryz.zeroValue9 }
open Go.RowKit Go.Lib in
theorem Tryz.strings_HasPrefix (s p:ByteArray) (w:World) :
  Calls Tryz.prog 263 #[.string s,.string p] w fun e w'=>e=.returned (.bool (Lib.hasPrefix s.data.toList p.data.toList))∧w'=w:=Any.strings_HasPrefix Tryz.lays99 s p w
end Go.Proofs

namespace Go.Proofs.YtmpmfamiegpmgaaGreatDoor
open Tryz
open Go.Lib (hid toList_data)
open Go.RowKit
set_option linter.unusedVariables false
theorem aO {a b:Bool} (h:a=b):Ending.returned (.bool a)=.returned (.bool b):=by rw [h]
theorem bK {k:IntKind} {a b:Int} (h:a=b):Ending.returned (.int k a)=.returned (.int k b):=by rw [h]
theorem below_drewN {N:Nat} {w w1:World} (h:Below N w w1) (n:Nat):Below N w (w1.drewN n):=⟨h.os,h.tape,h.output,h.size,h.block⟩
def At (w:World) (b off:Nat) (l:List ByteArray):Prop :=
 ∀ i,(h:i < l.length)→w.cell? ⟨b,off+i,none⟩=some (.string l[i])
theorem At.step {w w1:World} {b off:Nat} {l:List ByteArray} (h:At w b off l) (hb:b < w.heap.size) (hw:Below w.heap.size w w1):At w1 b off l :=
 fun i hi=>(hw.cell (p:=⟨b,_,none⟩) hb).trans (h i hi)
def In (w:World) (p:Option Addr) (n cap:Nat) (l:List ByteArray):Prop :=
 n=l.length∧(n=0∨∃ b off,p=some ⟨b,off,none⟩∧n≤cap∧b < w.heap.size∧At w b off l)
theorem In.step {w w1:World} {p:Option Addr} {n cap:Nat} {l:List ByteArray} (h:In w p n cap l) (hw:Below w.heap.size w w1):In w1 p n cap l:=by
 obtain ⟨hn,h0 | ⟨b,off,hp,hc,hb,hat⟩⟩:=h
 ·exact ⟨hn,.inl h0⟩
 ·exact ⟨hn,.inr ⟨b,off,hp,hc,Nat.lt_of_lt_of_le hb hw.size,hat.step hb hw⟩⟩
def bs (s:ByteArray):List UInt8:=s.data.toList
def fP (c:UInt8):Bool:=decide (97≤c.toNat∧c.toNat≤122)
def gZ (c:UInt8):Bool:=decide (65≤c.toNat∧c.toNat≤90)
def dW (c:UInt8):Bool:=decide (48≤c.toNat∧c.toNat≤57)
def bg (c:UInt8):Bool:=fP c || gZ c || dW c || ((c.toNat:Int) == 95) || ((c.toNat:Int) == 39)
def lG:List UInt8:=[33,37,38,36,35,43,45,47,58,60,61,62,63,64,92,126,96,94,124,42]
def bC (c:UInt8):Bool:=lG.contains c
theorem Af (c:UInt8) (w:World):Calls prog 152 #[.int .u8 (c.toNat:Int)] w fun e w'=>e=.returned (.bool (fP c))∧w=w':=by
 have hc:=c.toNat_lt
 by_cases h1:97≤c.toNat
 ·have h:Hid (fP c=decide ((c.toNat:Int)≤122)):=hid (by unfold fP; rw [Bool.eq_iff_iff]; simp; omega)
  go_enter func152,ntmps152
  go_wp2
  go_ret
  exact ⟨aO h.out.symm,rfl⟩
 ·have h:Hid (fP c=false):=hid (by unfold fP; simp; omega)
  go_enter func152,ntmps152
  go_wp2
  go_ret
  exact ⟨aO h.out.symm,rfl⟩
theorem GV (c:UInt8) (w:World):Calls prog 153 #[.int .u8 (c.toNat:Int)] w fun e w'=>e=.returned (.bool (gZ c))∧w=w':=by
 have hc:=c.toNat_lt
 by_cases h1:65≤c.toNat
 ·have h:Hid (gZ c=decide ((c.toNat:Int)≤90)):=hid (by unfold gZ; rw [Bool.eq_iff_iff]; simp; omega)
  go_enter func153,ntmps153
  go_wp2
  go_ret
  exact ⟨aO h.out.symm,rfl⟩
 ·have h:Hid (gZ c=false):=hid (by unfold gZ; simp; omega)
  go_enter func153,ntmps153
  go_wp2
  go_ret
  exact ⟨aO h.out.symm,rfl⟩
theorem Qj (c:UInt8) (w:World):Calls prog 154 #[.int .u8 (c.toNat:Int)] w fun e w'=>e=.returned (.bool (dW c))∧w=w':=by
 have hc:=c.toNat_lt
 by_cases h1:48≤c.toNat
 ·have h:Hid (dW c=decide ((c.toNat:Int)≤57)):=hid (by unfold dW; rw [Bool.eq_iff_iff]; simp; omega)
  go_enter func154,ntmps154
  go_wp2
  go_ret
  exact ⟨aO h.out.symm,rfl⟩
 ·have h:Hid (dW c=false):=hid (by unfold dW; simp; omega)
  go_enter func154,ntmps154
  go_wp2
  go_ret
  exact ⟨aO h.out.symm,rfl⟩
theorem pY (c:UInt8) (w:World):Calls prog 200 #[.int .u8 (c.toNat:Int)] w fun e w'=>e=.returned (.bool (fP c))∧w=w':=by
 have hc:=c.toNat_lt
 by_cases h1:97≤c.toNat
 ·have h:Hid (fP c=decide ((c.toNat:Int)≤122)):=hid (by unfold fP; rw [Bool.eq_iff_iff]; simp; omega)
  go_enter func200,ntmps200
  go_wp2
  go_ret
  exact ⟨aO h.out.symm,rfl⟩
 ·have h:Hid (fP c=false):=hid (by unfold fP; simp; omega)
  go_enter func200,ntmps200
  go_wp2
  go_ret
  exact ⟨aO h.out.symm,rfl⟩
theorem yO (c:UInt8) (w:World):Calls prog 201 #[.int .u8 (c.toNat:Int)] w fun e w'=>e=.returned (.bool (gZ c))∧w=w':=by
 have hc:=c.toNat_lt
 by_cases h1:65≤c.toNat
 ·have h:Hid (gZ c=decide ((c.toNat:Int)≤90)):=hid (by unfold gZ; rw [Bool.eq_iff_iff]; simp; omega)
  go_enter func201,ntmps201
  go_wp2
  go_ret
  exact ⟨aO h.out.symm,rfl⟩
 ·have h:Hid (gZ c=false):=hid (by unfold gZ; simp; omega)
  go_enter func201,ntmps201
  go_wp2
  go_ret
  exact ⟨aO h.out.symm,rfl⟩
theorem NP (c:UInt8) (w:World):Calls prog 108 #[.int .u8 (c.toNat:Int)] w fun e w'=>e=.returned (.bool (bg c))∧w=w':=by
 have hc:=c.toNat_lt
 have H1:=fun w=>Af c w
 have H2:=fun w=>GV c w
 have H3:=fun w=>Qj c w
 have HR:Hid (bg c=(fP c || gZ c || dW c || ((c.toNat:Int) == 95) || ((c.toNat:Int) == 39))):=hid rfl
 cases h1:fP c <;> cases h2:gZ c <;> cases h3:dW c <;> simp only [h1,h2,h3] at H1 H2 H3 HR <;> clear h1 h2 h3
 all_goals
  go_enter func108,ntmps108
  go_wp2_with (first | (go_at_call 152; refine (H1 _).mono ?_; rintro e w1 ⟨rfl,rfl⟩) | (go_at_call 153; refine (H2 _).mono ?_; rintro e w1 ⟨rfl,rfl⟩) | (go_at_call 154; refine (H3 _).mono ?_; rintro e w1 ⟨rfl,rfl⟩))
 all_goals
  go_ret
  exact ⟨aO (by rw [HR.out]; simp [*]),rfl⟩
theorem iV (c:UInt8) (w:World):Calls prog 159 #[.int .u8 (c.toNat:Int)] w fun e w'=>e=.returned (.bool (bg c))∧w=w':=by
 have hc:=c.toNat_lt
 have H1:=fun w=>pY c w
 have H2:=fun w=>yO c w
 have HR:Hid (bg c=(fP c || gZ c || dW c || ((c.toNat:Int) == 95) || ((c.toNat:Int) == 39))):=hid rfl
 have HD:Hid (dW c=(decide (48≤(c.toNat:Int)) && decide ((c.toNat:Int)≤57))):=hid (by unfold dW; rw [Bool.eq_iff_iff]; simp; omega)
 cases h1:fP c <;> cases h2:gZ c <;> simp only [h1,h2] at H1 H2 HR <;> clear h1 h2
 all_goals
  go_enter func159,ntmps159
  go_wp2_with (first | (go_at_call 200; refine (H1 _).mono ?_; rintro e w1 ⟨rfl,rfl⟩) | (go_at_call 201; refine (H2 _).mono ?_; rintro e w1 ⟨rfl,rfl⟩))
 all_goals
  go_ret
  refine ⟨aO ?_,rfl⟩
  rw [HR.out,HD.out,Bool.eq_iff_iff]
  simp
  try omega
theorem BD (c:UInt8) (w:World):Calls prog 109 #[.int .u8 (c.toNat:Int)] w fun e w'=>e=.returned (.bool (bC c))∧w=w':=by
 have hc:=c.toNat_lt
 have HS:Hid (bC c=decide (0≤Lib.indexByte lG c)):=hid (Lib.contains_iff_indexByte lG c)
 have H1:∀ w,Calls prog 155 #[.string ⟨#[33,37,38,36,35,43,45,47,58,60,61,62,63,64,92,126,96,94,124,42]⟩,.int .u8 (c.toNat:Int)] w fun e w'=>e=.returned (.int .i64 (Lib.indexByte lG c))∧w'=w:=fun w=>by
  have h:=strings_IndexByte ⟨#[33,37,38,36,35,43,45,47,58,60,61,62,63,64,92,126,96,94,124,42]⟩ (c.toNat:Int) w
  have hcc:((c.toNat:Int)).toNat.toUInt8=c:=by simp
  rw [hcc] at h
  exact h
 generalize Lib.indexByte lG c=x at *
 go_enter func109,ntmps109
 go_wp2_with (go_at_call 155; refine (H1 _).mono ?_; rintro e w1 ⟨rfl,rfl⟩)
 go_ret
 exact ⟨aO (by rw [HS.out]),rfl⟩
def Jz:List UInt8:=[33,37,38,36,35,43,45,47,58,60,61,62,63,64,94,124,42,126]
theorem Lm (c:UInt8) (k:Nat) (h:k < 18) (he:Jz[k]'h=c):bC c=true:=by
 subst he
 revert k
 decide
theorem xe (c n:UInt8):(c=n)=((c.toNat:Int)=(n.toNat:Int)):=by
 rw [← UInt8.toNat_inj,eq_iff_iff]; omega
theorem Fb (c:UInt8) (h:∀ j,(hj:j < 18)→Jz[j]'hj≠c):bC c=(((c.toNat:Int) == 92) || ((c.toNat:Int) == 96)):=by
 have hn:¬ c ∈ Jz:=by
  intro hm
  obtain ⟨j,hj,e⟩:=List.getElem_of_mem hm
  exact h j hj e
 rw [Bool.eq_iff_iff]
 have h2:bC c=true ↔ c ∈ lG:=by unfold bC; simp
 rw [h2]
 simp only [Jz,List.mem_cons,List.not_mem_nil,or_false,xe] at hn
 simp only [lG,List.mem_cons,List.not_mem_nil,or_false,xe,Bool.or_eq_true,beq_iff_eq]
 simp at hn ⊢
 omega
set_option maxHeartbeats 400000 in
theorem kT (c:UInt8) (w:World):Calls prog 161 #[.int .u8 (c.toNat:Int)] w fun e w'=>e=.returned (.bool (bC c))∧w=w':=by
 have hc:=c.toNat_lt
 go_enter func161,ntmps161
 go_wp2
 go_loop [4] (fun i=>∃ k:Nat,k≤18∧i=.int .i64 k∧Hid (∀ j,j < k→(hj:j < 18)→Jz[j]'hj≠c)) (fun i=>18 - (intOf i).toNat)
 case atStart=>exact ⟨0,by omega,rfl,hid (fun j h=>by omega)⟩
 case round =>
  obtain ⟨k,hk,rfl,HK⟩:=hrel
  by_cases hlt:k < 18
  ·by_cases he:Jz[k]'hlt=c
   ·have hx:(((({data:=#[33,37,38,36,35,43,45,47,58,60,61,62,63,64,94,124,42,126]}:ByteArray)[k]'hlt).toNat:Int) == (c.toNat:Int))=true:=by
     rw [← he]; exact beq_iff_eq.2 rfl
    have HB:=hid (Lm c k hlt he)
    clear he
    go_wp2
    go_ret
    exact ⟨aO HB.out.symm,rfl⟩
   ·have hx:(((({data:=#[33,37,38,36,35,43,45,47,58,60,61,62,63,64,94,124,42,126]}:ByteArray)[k]'hlt).toNat:Int) == (c.toNat:Int))=false:=by
     rw [beq_eq_false_iff_ne]; intro e; exact he (by rw [xe]; exact e)
    have HE:=hid he
    clear he
    go_wp2
    go_round
    case rel =>
     refine ⟨k+1,by omega,by go_num,hid fun j hj hj2=>?_⟩
     by_cases e:j=k
     ·subst e; exact HE.out
     ·exact HK.out j (by omega) hj2
    case measure=>simp [intOf]; omega
  ·have HB:=hid (Fb c (fun j hj=>HK.out j (by omega) hj))
   go_wp2
   all_goals
    go_ret
    exact ⟨aO (by simp [HB.out, *]),rfl⟩
def kwT:List ByteArray:=[⟨#[97,110,100]⟩,⟨#[97,115]⟩,⟨#[99,97,115,101]⟩,⟨#[100,97,116,97,116,121,112,101]⟩,⟨#[101,108,115,101]⟩,⟨#[101,110,100]⟩,⟨#[102,110]⟩,⟨#[102,117,110]⟩,⟨#[102,117,110,99,116,111,114]⟩,⟨#[105,102]⟩,⟨#[105,110]⟩,⟨#[105,110,99,108,117,100,101]⟩,⟨#[108,101,116]⟩,⟨#[108,111,99,97,108]⟩,⟨#[111,102]⟩,⟨#[111,112]⟩,⟨#[111,112,101,110]⟩,⟨#[115,105,103]⟩,⟨#[115,105,103,110,97,116,117,114,101]⟩,⟨#[115,116,114,117,99,116]⟩,⟨#[115,116,114,117,99,116,117,114,101]⟩,⟨#[116,104,101,110]⟩,⟨#[116,121,112,101]⟩,⟨#[118,97,108]⟩,⟨#[119,104,101,114,101]⟩]
def inB (l:List ByteArray) (s:ByteArray):Bool:=l.any fun t=>t.toList == s.toList
theorem NU {l:List ByteArray} {s:ByteArray} (k:Nat) (h:k < l.length) (he:((l[k]'h).toList == s.toList)=true):inB l s=true:=by
 unfold inB; rw [List.any_eq_true]; exact ⟨_,List.getElem_mem h,he⟩
theorem Dj {l:List ByteArray} {s:ByteArray} (h:∀ j,(hj:j < l.length)→((l[j]'hj).toList == s.toList)=false):inB l s=false:=by
 unfold inB; rw [List.any_eq_false]; intro x hx
 obtain ⟨j,hj,e⟩:=List.getElem_of_mem hx
 rw [← e,h j hj]; simp
def kwB (s:ByteArray):Bool:=inB kwT s
def mkT:List ByteArray:=[⟨#[40]⟩,⟨#[41]⟩,⟨#[44]⟩,⟨#[46]⟩,⟨#[59]⟩,⟨#[95]⟩,⟨#[61]⟩,⟨#[61,62]⟩,⟨#[124]⟩,⟨#[58]⟩,⟨#[58,62]⟩,⟨#[45,62]⟩]
def mkB (s:ByteArray):Bool:=inB mkT s
def kwV:Array Value:=(kwT.map Value.string).toArray
def Kw (w:World):Prop:=(∃ t fr,w.heap[0]?=some (.cells kwV t fr))∧At w 0 0 kwT
theorem Kw.of {w:World} {t:TypeId} {fr:Nat × Nat} (h:w.heap[0]?=some (.cells kwV t fr)):Kw w:=by
 refine ⟨⟨t,fr,h⟩,fun i hi=>?_⟩
 rw [Nat.zero_add,cell_of_row w 0 i kwV t fr h]
 unfold kwV
 simp [hi]
theorem Kw.pos {w:World} (h:Kw w):0 < w.heap.size:=by
 obtain ⟨⟨t,fr,h⟩,_⟩:=h
 exact (Array.getElem?_eq_some_iff.1 h).1
theorem Kw.step {w w1:World} (h:Kw w) (hb:Below w.heap.size w w1):Kw w1:=by
 have hp:=h.pos
 obtain ⟨⟨t,fr,h⟩,_⟩:=h
 exact Kw.of (t:=t) (fr:=fr) ((hb.block 0 hp).trans h)
set_option maxHeartbeats 400000 in
theorem Bj (s:ByteArray) (w:World) (hk:Kw w):Calls prog 106 #[.string s] w fun e w'=>e=.returned (.bool (kwB s))∧w=w':=by
 have HK:=hid hk.2
 clear hk
 go_enter func106,ntmps106
 go_wp2
 go_loop [4] (fun i=>∃ k:Nat,k≤25∧i=.int .i64 k∧Hid (∀ j,j < k→(hj:j < 25)→((kwT[j]'hj).toList == s.toList)=false)) (fun i=>25 - (intOf i).toNat)
 case atStart=>exact ⟨0,by omega,rfl,hid (fun j h=>by omega)⟩
 case round =>
  obtain ⟨k,hk,rfl,HJ⟩:=hrel
  by_cases hlt:k < 25
  ·have hc:w.cell? ⟨0,k,none⟩=some (.string (kwT[k]'hlt)):=by have:=HK.out k hlt; rw [Nat.zero_add] at this; exact this
   by_cases he:((kwT[k]'hlt).toList == s.toList)=true
   ·have HB:=hid (NU (l:=kwT) k hlt he)
    generalize kwT[k]'hlt=t at hc he
    go_wp2
    go_ret
    exact ⟨aO HB.out.symm,rfl⟩
   ·have he:((kwT[k]'hlt).toList == s.toList)=false:=by simpa using he
    have HE:=hid he
    generalize kwT[k]'hlt=t at hc he
    go_wp2
    go_round
    case rel =>
     refine ⟨k+1,by omega,by go_num,hid fun j hj hj2=>?_⟩
     by_cases e:j=k
     ·subst e; exact HE.out
     ·exact HJ.out j (by omega) hj2
    case measure=>simp [intOf]; omega
  ·have HB:=hid (Dj (l:=kwT) (s:=s) (fun j hj=>HJ.out j (by have:kwT.length=25:=rfl; omega) hj))
   go_wp2
   go_ret
   exact ⟨aO (by unfold kwB; exact HB.out.symm),rfl⟩
theorem ER (s:ByteArray):mkB s=((s.toList == [40]) || (s.toList == [41]) || (s.toList == [44]) || (s.toList == [46]) || (s.toList == [59]) || (s.toList == [95]) || (s.toList == [61]) || (s.toList == [61,62]) || (s.toList == [124]) || (s.toList == [58]) || (s.toList == [58,62]) || (s.toList == [45,62])):=by
 unfold mkB inB mkT
 simp only [List.any_cons,List.any_nil,Bool.or_false]
 have hh:∀ (a:ByteArray) (l:List UInt8),a.toList=l→(a.toList == s.toList)=(s.toList == l):=fun a l h=>by rw [h]; exact Bool.beq_comm
 rw [hh ⟨#[40]⟩ [40] (by simp [toList_data])]
 rw [hh ⟨#[41]⟩ [41] (by simp [toList_data])]
 rw [hh ⟨#[44]⟩ [44] (by simp [toList_data])]
 rw [hh ⟨#[46]⟩ [46] (by simp [toList_data])]
 rw [hh ⟨#[59]⟩ [59] (by simp [toList_data])]
 rw [hh ⟨#[95]⟩ [95] (by simp [toList_data])]
 rw [hh ⟨#[61]⟩ [61] (by simp [toList_data])]
 rw [hh ⟨#[61,62]⟩ [61,62] (by simp [toList_data])]
 rw [hh ⟨#[124]⟩ [124] (by simp [toList_data])]
 rw [hh ⟨#[58]⟩ [58] (by simp [toList_data])]
 rw [hh ⟨#[58,62]⟩ [58,62] (by simp [toList_data])]
 rw [hh ⟨#[45,62]⟩ [45,62] (by simp [toList_data])]
 simp only [Bool.or_assoc]
theorem Om (s:ByteArray) (w:World):Calls prog 110 #[.string s] w fun e w'=>e=.returned (.bool (mkB s))∧w=w':=by
 have HM:=hid (ER s)
 cases e0:(s.toList == [40])
 case true =>
  go_enter func110,ntmps110
  go_wp2
  go_ret
  exact ⟨aO (by simp [HM.out, *]),rfl⟩
 cases e1:(s.toList == [41])
 case true =>
  go_enter func110,ntmps110
  go_wp2
  go_ret
  exact ⟨aO (by simp [HM.out, *]),rfl⟩
 cases e2:(s.toList == [44])
 case true =>
  go_enter func110,ntmps110
  go_wp2
  go_ret
  exact ⟨aO (by simp [HM.out, *]),rfl⟩
 cases e3:(s.toList == [46])
 case true =>
  go_enter func110,ntmps110
  go_wp2
  go_ret
  exact ⟨aO (by simp [HM.out, *]),rfl⟩
 cases e4:(s.toList == [59])
 case true =>
  go_enter func110,ntmps110
  go_wp2
  go_ret
  exact ⟨aO (by simp [HM.out, *]),rfl⟩
 cases e5:(s.toList == [95])
 case true =>
  go_enter func110,ntmps110
  go_wp2
  go_ret
  exact ⟨aO (by simp [HM.out, *]),rfl⟩
 cases e6:(s.toList == [61])
 case true =>
  go_enter func110,ntmps110
  go_wp2
  go_ret
  exact ⟨aO (by simp [HM.out, *]),rfl⟩
 cases e7:(s.toList == [61,62])
 case true =>
  go_enter func110,ntmps110
  go_wp2
  go_ret
  exact ⟨aO (by simp [HM.out, *]),rfl⟩
 cases e8:(s.toList == [124])
 case true =>
  go_enter func110,ntmps110
  go_wp2
  go_ret
  exact ⟨aO (by simp [HM.out, *]),rfl⟩
 cases e9:(s.toList == [58])
 case true =>
  go_enter func110,ntmps110
  go_wp2
  go_ret
  exact ⟨aO (by simp [HM.out, *]),rfl⟩
 cases e10:(s.toList == [58,62])
 case true =>
  go_enter func110,ntmps110
  go_wp2
  go_ret
  exact ⟨aO (by simp [HM.out, *]),rfl⟩
 cases e11:(s.toList == [45,62])
 case true =>
  go_enter func110,ntmps110
  go_wp2
  go_ret
  exact ⟨aO (by simp [HM.out, *]),rfl⟩
 go_enter func110,ntmps110
 go_wp2
 go_ret
 exact ⟨aO (by simp [HM.out, *]),rfl⟩
set_option maxHeartbeats 400000 in
theorem QD (l:List ByteArray) (s:ByteArray) (b off n cap:Nat) (w:World) (hat:At w b off l) (hn:n=l.length) (hc:n≤cap) (hm:n≤9223372036854775807) :
  Calls prog 202 #[.slice (some ⟨b,off,none⟩) n cap,.string s] w fun e w'=>e=.returned (.bool (inB l s))∧w=w':=by
 have HA:=hid hat
 have HN:=hid hn
 clear hat hn
 go_enter func202,ntmps202
 go_wp2
 go_loop [5] (fun i=>∃ k:Nat,k≤n∧i=.int .i64 k∧Hid (∀ j,j < k→(hj:j < l.length)→((l[j]'hj).toList == s.toList)=false)) (fun i=>n - (intOf i).toNat)
 case atStart=>exact ⟨0,by omega,rfl,hid (fun j h=>by omega)⟩
 case round =>
  obtain ⟨k,hk,rfl,HJ⟩:=hrel
  by_cases hlt:k < n
  ·have hkl:k < l.length:=by have:=HN.out; omega
   have hcell:w.cell? ⟨b,off+k,none⟩=some (.string (l[k]'hkl)):=HA.out k hkl
   by_cases he:((l[k]'hkl).toList == s.toList)=true
   ·have HB:=hid (NU (l:=l) k hkl he)
    generalize l[k]'hkl=t at hcell he
    go_wp2
    go_ret
    exact ⟨aO HB.out.symm,rfl⟩
   ·have he:((l[k]'hkl).toList == s.toList)=false:=by simpa using he
    have HE:=hid he
    generalize l[k]'hkl=t at hcell he
    go_wp2
    go_round
    case rel =>
     refine ⟨k+1,by omega,by go_num,hid fun j hj hj2=>?_⟩
     by_cases e:j=k
     ·subst e; exact HE.out
     ·exact HJ.out j (by omega) hj2
    case measure=>simp [intOf]; omega
  ·have HB:=hid (Dj (l:=l) (s:=s) (fun j hj=>HJ.out j (by have:=HN.out; omega) hj))
   go_wp2
   go_ret
   exact ⟨aO HB.out.symm,rfl⟩
theorem TW (s:ByteArray) (p:Option Addr) (cap:Nat) (w:World) :
  Calls prog 202 #[.slice p 0 cap,.string s] w fun e w'=>e=.returned (.bool false)∧w=w':=by
 go_enter func202,ntmps202
 go_wp2
 refine wp_loop_rounds 1 ?_
 rw [rounds_succ]
 go_wp2
 go_ret
 exact ⟨rfl,rfl⟩
theorem EW (l:List ByteArray) (s:ByteArray) (p:Option Addr) (n cap:Nat) (w:World) (h:In w p n cap l) (hm:n≤9223372036854775807) :
  Calls prog 202 #[.slice p n cap,.string s] w fun e w'=>e=.returned (.bool (inB l s))∧w=w':=by
 obtain ⟨hn,h0 | ⟨b,off,rfl,hc,hb,hat⟩⟩:=h
 ·subst h0
  have:l=[]:=List.length_eq_zero_iff.1 hn.symm
  subst this
  exact TW s p cap w
 ·exact QD l s b off n cap w hat hn hc hm
theorem MO (w:World) (l:List ByteArray) (T n:Nat) (hn:n=l.length):In (w.alloc (.cells (l.map Value.string).toArray T)) (some ⟨w.heap.size,0,none⟩) n n l:=by
 refine ⟨hn,.inr ⟨w.heap.size,0,rfl,Nat.le_refl _,by simp,fun i hi=>?_⟩⟩
 rw [World.cell?_alloc_new]
 simp [hi]
theorem yZ (w:World):Calls prog 203 #[] w fun e w'=>e=.returned (.slice (some ⟨w.heap.size,0,none⟩) 12 12)∧In w' (some ⟨w.heap.size,0,none⟩) 12 12 mkT∧Below w.heap.size w w':=by
 go_enter func203,ntmps203
 go_wp2
 go_ret
 exact ⟨rfl,MO w mkT 9 12 rfl,(Below.refl _ _).alloc (Nat.le_refl _) _⟩
set_option maxRecDepth 10000 in
theorem uS (w:World):Calls prog 204 #[] w fun e w'=>e=.returned (.slice (some ⟨w.heap.size,0,none⟩) 25 25)∧In w' (some ⟨w.heap.size,0,none⟩) 25 25 kwT∧Below w.heap.size w w':=by
 go_enter func204,ntmps204
 go_wp2
 go_ret
 exact ⟨rfl,MO w kwT 9 25 rfl,(Below.refl _ _).alloc (Nat.le_refl _) _⟩
def ig (s:ByteArray):Int:=match s.toList with
 | []=>0
 | c :: r=>bif fP c then 6 else bif gZ c then 7 else bif bC c then 9 else bif ((c.toNat:Int) == 39) then (match r with | []=>0 | d :: _=>bif fP d then 8 else 0) else 0
theorem aW (s:ByteArray):s.data.toList.length=s.size:=(Lib.size_eq s).symm
theorem jy (s:ByteArray) (k:Nat) (h:k < s.size):s.data.toList[k]'(by rw [aW]; exact h)=s[k]:=by
 rw [Array.getElem_toList]; rfl
theorem qM (s:ByteArray) (h:s.size=1):s.toList=[s[0]]:=by
 rw [toList_data]
 apply List.ext_getElem
 ·rw [aW]; exact h
 ·intro i h1 h2
  simp at h2
  subst h2
  rw [jy s 0 (by omega)]
  rfl
theorem lK (s:ByteArray) (h:1 < s.size):s.toList=s[0] :: s[1] :: s.data.toList.drop 2:=by
 rw [toList_data]
 have hl:=aW s
 rw [← jy s 0 (by omega),← jy s 1 (by omega),List.getElem_cons_drop,List.getElem_cons_drop,List.drop_zero]
set_option maxHeartbeats 2000000 in
set_option maxRecDepth 20000 in
theorem JA (s:ByteArray) (w:World) (hm:s.size≤9223372036854775807):Calls prog 105 #[.string s] w fun e w'=>e=.returned (.int .i64 (ig s))∧w=w':=by
 by_cases h0:s.size=0
 ·have he:s.toList=[]:=by rw [toList_data,← List.length_eq_zero_iff,← Lib.size_eq]; exact h0
  have HB:Hid (ig s=0):=hid (by unfold ig; rw [he])
  have hem:s.toList.isEmpty=true:=by rw [he]; rfl
  clear he
  go_enter func105,ntmps105
  go_wp2
  go_ret
  exact ⟨bK HB.out.symm,rfl⟩
 ·have hem:s.toList.isEmpty=false:=by
   rw [toList_data]
   cases e:s.data.toList with
   | nil=>have:=Lib.size_eq s; rw [e] at this; exact absurd this h0
   | cons=>rfl
  have hp:0 < s.size:=by omega
  have HL:=fun w=>Af s[0] w
  have HC:=fun w=>GV s[0] w
  have HS:=fun w=>BD s[0] w
  by_cases h1:s.size=1
  ·have h1':s.size≤1:=by omega
   have HB:Hid (ig s=bif fP s[0] then (6:Int) else bif gZ s[0] then (7:Int) else bif bC s[0] then (9:Int) else bif ((s[0].toNat:Int) == 39) then (0:Int) else (0:Int)):=hid (by unfold ig; rw [qM s h1])
   clear h0 h1
   cases hHL:fP s[0]
   case true =>
    simp only [hHL,cond_true] at HL HB; clear hHL
    go_enter func105,ntmps105
    go_wp2_with (first | (go_at_call 152; refine (HL _).mono ?_; rintro e w1 ⟨rfl,rfl⟩) | (go_at_call 153; refine (HC _).mono ?_; rintro e w1 ⟨rfl,rfl⟩) | (go_at_call 109; refine (HS _).mono ?_; rintro e w1 ⟨rfl,rfl⟩))
    go_ret
    exact ⟨bK HB.out.symm,rfl⟩
   simp only [hHL,cond_false] at HL HB; clear hHL
   cases Ov:gZ s[0]
   case true =>
    simp only [Ov,cond_true] at HC HB; clear Ov
    go_enter func105,ntmps105
    go_wp2_with (first | (go_at_call 152; refine (HL _).mono ?_; rintro e w1 ⟨rfl,rfl⟩) | (go_at_call 153; refine (HC _).mono ?_; rintro e w1 ⟨rfl,rfl⟩) | (go_at_call 109; refine (HS _).mono ?_; rintro e w1 ⟨rfl,rfl⟩))
    go_ret
    exact ⟨bK HB.out.symm,rfl⟩
   simp only [Ov,cond_false] at HC HB; clear Ov
   cases Ox:bC s[0]
   case true =>
    simp only [Ox,cond_true] at HS HB; clear Ox
    go_enter func105,ntmps105
    go_wp2_with (first | (go_at_call 152; refine (HL _).mono ?_; rintro e w1 ⟨rfl,rfl⟩) | (go_at_call 153; refine (HC _).mono ?_; rintro e w1 ⟨rfl,rfl⟩) | (go_at_call 109; refine (HS _).mono ?_; rintro e w1 ⟨rfl,rfl⟩))
    go_ret
    exact ⟨bK HB.out.symm,rfl⟩
   simp only [Ox,cond_false] at HS HB; clear Ox
   cases hq:((s[0].toNat:Int) == 39)
   case false =>
    simp only [hq,cond_false] at HB
    go_enter func105,ntmps105
    go_wp2_with (first | (go_at_call 152; refine (HL _).mono ?_; rintro e w1 ⟨rfl,rfl⟩) | (go_at_call 153; refine (HC _).mono ?_; rintro e w1 ⟨rfl,rfl⟩) | (go_at_call 109; refine (HS _).mono ?_; rintro e w1 ⟨rfl,rfl⟩))
    go_ret
    exact ⟨bK HB.out.symm,rfl⟩
   simp only [hq,cond_true] at HB
   go_enter func105,ntmps105
   go_wp2_with (first | (go_at_call 152; refine (HL _).mono ?_; rintro e w1 ⟨rfl,rfl⟩) | (go_at_call 153; refine (HC _).mono ?_; rintro e w1 ⟨rfl,rfl⟩) | (go_at_call 109; refine (HS _).mono ?_; rintro e w1 ⟨rfl,rfl⟩))
   go_ret
   exact ⟨bK HB.out.symm,rfl⟩
  ·have h1':1 < s.size:=by omega
   have HB:Hid (ig s=bif fP s[0] then (6:Int) else bif gZ s[0] then (7:Int) else bif bC s[0] then (9:Int) else bif ((s[0].toNat:Int) == 39) then (bif fP s[1] then (8:Int) else (0:Int)) else (0:Int)):=hid (by unfold ig; rw [lK s h1'])
   have HD:=fun w=>Af s[1] w
   clear h0 h1
   cases hHL:fP s[0]
   case true =>
    simp only [hHL,cond_true] at HL HB; clear hHL
    go_enter func105,ntmps105
    go_wp2_with (first | (go_at_call 152; refine (HL _).mono ?_; rintro e w1 ⟨rfl,rfl⟩) | (go_at_call 153; refine (HC _).mono ?_; rintro e w1 ⟨rfl,rfl⟩) | (go_at_call 109; refine (HS _).mono ?_; rintro e w1 ⟨rfl,rfl⟩) | (go_at_call 152; refine (HD _).mono ?_; rintro e w1 ⟨rfl,rfl⟩))
    go_ret
    exact ⟨bK HB.out.symm,rfl⟩
   simp only [hHL,cond_false] at HL HB; clear hHL
   cases Ov:gZ s[0]
   case true =>
    simp only [Ov,cond_true] at HC HB; clear Ov
    go_enter func105,ntmps105
    go_wp2_with (first | (go_at_call 152; refine (HL _).mono ?_; rintro e w1 ⟨rfl,rfl⟩) | (go_at_call 153; refine (HC _).mono ?_; rintro e w1 ⟨rfl,rfl⟩) | (go_at_call 109; refine (HS _).mono ?_; rintro e w1 ⟨rfl,rfl⟩) | (go_at_call 152; refine (HD _).mono ?_; rintro e w1 ⟨rfl,rfl⟩))
    go_ret
    exact ⟨bK HB.out.symm,rfl⟩
   simp only [Ov,cond_false] at HC HB; clear Ov
   cases Ox:bC s[0]
   case true =>
    simp only [Ox,cond_true] at HS HB; clear Ox
    go_enter func105,ntmps105
    go_wp2_with (first | (go_at_call 152; refine (HL _).mono ?_; rintro e w1 ⟨rfl,rfl⟩) | (go_at_call 153; refine (HC _).mono ?_; rintro e w1 ⟨rfl,rfl⟩) | (go_at_call 109; refine (HS _).mono ?_; rintro e w1 ⟨rfl,rfl⟩) | (go_at_call 152; refine (HD _).mono ?_; rintro e w1 ⟨rfl,rfl⟩))
    go_ret
    exact ⟨bK HB.out.symm,rfl⟩
   simp only [Ox,cond_false] at HS HB; clear Ox
   cases hq:((s[0].toNat:Int) == 39)
   case false =>
    simp only [hq,cond_false] at HB
    go_enter func105,ntmps105
    go_wp2_with (first | (go_at_call 152; refine (HL _).mono ?_; rintro e w1 ⟨rfl,rfl⟩) | (go_at_call 153; refine (HC _).mono ?_; rintro e w1 ⟨rfl,rfl⟩) | (go_at_call 109; refine (HS _).mono ?_; rintro e w1 ⟨rfl,rfl⟩) | (go_at_call 152; refine (HD _).mono ?_; rintro e w1 ⟨rfl,rfl⟩))
    go_ret
    exact ⟨bK HB.out.symm,rfl⟩
   simp only [hq,cond_true] at HB
   cases hd:fP s[1] <;> simp only [hd] at HD HB <;> clear hd
   all_goals
    go_enter func105,ntmps105
    go_wp2_with (first | (go_at_call 152; refine (HL _).mono ?_; rintro e w1 ⟨rfl,rfl⟩) | (go_at_call 153; refine (HC _).mono ?_; rintro e w1 ⟨rfl,rfl⟩) | (go_at_call 109; refine (HS _).mono ?_; rintro e w1 ⟨rfl,rfl⟩) | (go_at_call 152; refine (HD _).mono ?_; rintro e w1 ⟨rfl,rfl⟩))
    go_ret
    exact ⟨bK HB.out.symm,rfl⟩
theorem GY {l:List UInt8} {f:UInt8→Bool} (k:Nat) (h:k < l.length) (he:f (l[k]'h)=false):l.all f=false:=by
 rw [List.all_eq_false]; exact ⟨_,List.getElem_mem h,by simp [he]⟩
theorem CU {l:List UInt8} {f:UInt8→Bool} (h:∀ j,(hj:j < l.length)→f (l[j]'hj)=true):l.all f=true:=by
 rw [List.all_eq_true]; intro x hx
 obtain ⟨j,hj,e⟩:=List.getElem_of_mem hx
 rw [← e]; exact h j hj
def lU (s:ByteArray):Bool:=s.data.toList.all bg
def tY (s:ByteArray):Bool:=s.data.toList.all bC
set_option maxHeartbeats 400000 in
theorem vZ (s:ByteArray) (w:World) (hs:s.size≤9223372036854775807):Calls prog 107 #[.string s,.func (.func 108) #[] #[]] w fun e w'=>e=.returned (.bool (lU s))∧w=w':=by
 go_enter func107,ntmps107
 go_wp2
 go_loop [8] (fun i=>∃ k:Nat,k≤s.size∧i=.int .i64 k∧Hid (∀ j,j < k→(hj:j < s.data.toList.length)→bg (s.data.toList[j]'hj)=true)) (fun i=>s.size - (intOf i).toNat)
 case atStart=>exact ⟨0,by omega,rfl,hid (fun j h=>by omega)⟩
 case round =>
  obtain ⟨k,hk,rfl,HJ⟩:=hrel
  by_cases hlt:k < s.size
  ·have H:=fun w=>NP s[k] w
   cases hr:bg s[k]
   ·have HB:=hid (GY (f:=bg) (l:=s.data.toList) k (by rw [aW]; exact hlt) (by rw [jy s k hlt]; exact hr))
    simp only [hr] at H
    clear hr
    go_wp2_with (go_at_call 108; refine (H _).mono ?_; rintro e w1 ⟨rfl,rfl⟩)
    go_ret
    exact ⟨aO HB.out.symm,rfl⟩
   ·have HE:=hid hr
    simp only [hr] at H
    clear hr
    go_wp2_with (go_at_call 108; refine (H _).mono ?_; rintro e w1 ⟨rfl,rfl⟩)
    go_round
    case rel =>
     refine ⟨k+1,by omega,by go_num,hid fun j hj hj2=>?_⟩
     by_cases e:j=k
     ·subst e; rw [jy s j hlt]; exact HE.out
     ·exact HJ.out j (by omega) hj2
    case measure=>simp [intOf]; omega
  ·have HB:=hid (CU (f:=bg) (l:=s.data.toList) (fun j hj=>HJ.out j (by have:=aW s; omega) hj))
   go_wp2
   go_ret
   exact ⟨aO HB.out.symm,rfl⟩
set_option maxHeartbeats 400000 in
theorem NQ (s:ByteArray) (w:World) (hs:s.size≤9223372036854775807):Calls prog 107 #[.string s,.func (.func 109) #[] #[]] w fun e w'=>e=.returned (.bool (tY s))∧w=w':=by
 go_enter func107,ntmps107
 go_wp2
 go_loop [8] (fun i=>∃ k:Nat,k≤s.size∧i=.int .i64 k∧Hid (∀ j,j < k→(hj:j < s.data.toList.length)→bC (s.data.toList[j]'hj)=true)) (fun i=>s.size - (intOf i).toNat)
 case atStart=>exact ⟨0,by omega,rfl,hid (fun j h=>by omega)⟩
 case round =>
  obtain ⟨k,hk,rfl,HJ⟩:=hrel
  by_cases hlt:k < s.size
  ·have H:=fun w=>BD s[k] w
   cases hr:bC s[k]
   ·have HB:=hid (GY (f:=bC) (l:=s.data.toList) k (by rw [aW]; exact hlt) (by rw [jy s k hlt]; exact hr))
    simp only [hr] at H
    clear hr
    go_wp2_with (go_at_call 109; refine (H _).mono ?_; rintro e w1 ⟨rfl,rfl⟩)
    go_ret
    exact ⟨aO HB.out.symm,rfl⟩
   ·have HE:=hid hr
    simp only [hr] at H
    clear hr
    go_wp2_with (go_at_call 109; refine (H _).mono ?_; rintro e w1 ⟨rfl,rfl⟩)
    go_round
    case rel =>
     refine ⟨k+1,by omega,by go_num,hid fun j hj hj2=>?_⟩
     by_cases e:j=k
     ·subst e; rw [jy s j hlt]; exact HE.out
     ·exact HJ.out j (by omega) hj2
    case measure=>simp [intOf]; omega
  ·have HB:=hid (CU (f:=bC) (l:=s.data.toList) (fun j hj=>HJ.out j (by have:=aW s; omega) hj))
   go_wp2
   go_ret
   exact ⟨aO HB.out.symm,rfl⟩
def uQ (s:ByteArray):Bool:=match s.toList with
 | _ :: d :: _=>fP d
 | _=>false
theorem jD (s:ByteArray) (h:0 < s.size):ig s=bif fP s[0] then (6:Int) else bif gZ s[0] then (7:Int) else bif bC s[0] then (9:Int) else bif (((s[0].toNat:Int) == 39) && uQ s) then (8:Int) else (0:Int):=by
 by_cases h1:s.size=1
 ·unfold ig uQ; rw [qM s h1]; simp
 ·unfold ig uQ; rw [lK s (by omega)]; cases e:((s[0].toNat:Int) == 39) <;> simp only [e,cond_true,cond_false,Bool.true_and,Bool.false_and]
theorem vK (s:ByteArray) (h:s.size=0):ig s=0:=by
 have he:s.toList=[]:=by rw [toList_data,← List.length_eq_zero_iff,aW]; exact h
 unfold ig; rw [he]
theorem pK (s:ByteArray) (h:0 < s.size):s.data.toList=s[0] :: s.data.toList.drop 1:=by
 rw [← jy s 0 h,List.getElem_cons_drop,List.drop_zero]
theorem zu (s:ByteArray) (h:0 < s.size):lU s=(bg s[0] && lU (s.extract 1 s.size)):=by
 unfold lU
 have e1:(s.extract 1 s.size).data.toList=s.data.toList.drop 1:=by
  rw [Lib.extract_data,List.take_of_length_le (by rw [List.length_drop,aW]; omega)]
 rw [e1,← List.all_cons,← pK s h]
theorem IW (s:ByteArray) (h:0 < s.size):tY s=true→bC s[0]=true:=by
 unfold tY; rw [pK s h,List.all_cons]; intro h; simp at h; exact h.1
theorem FB (s:ByteArray) (h:0 < s.size):lU s=true→bg s[0]=true:=by
 rw [zu s h]; intro h; simp at h; exact h.1
theorem DL (c:UInt8) (h:fP c=true):bg c=true:=by unfold bg; rw [h]; simp
theorem Cc (c:UInt8) (h:gZ c=true):bg c=true:=by unfold bg; rw [h]; simp
theorem JO (c:UInt8) (h:((c.toNat:Int) == 39)=true):bg c=true:=by unfold bg; rw [h]; simp
theorem pR (c:UInt8) (h:bg c=true):bC c=false:=by
 have h2:¬ (c ∈ lG):=by
  unfold bg fP gZ dW at h
  simp only [lG,List.mem_cons,List.not_mem_nil,or_false,xe]
  simp at h ⊢
  omega
 unfold bC; simpa using h2
theorem O3 (c:UInt8) (h:gZ c=true):fP c=false:=by
 unfold gZ at h; unfold fP; simp at h ⊢; omega
theorem C9 (c:UInt8) (h:((c.toNat:Int) == 39)=true):fP c=false:=by
 unfold fP; simp at h ⊢; omega
theorem Nq (c:UInt8) (h:((c.toNat:Int) == 39)=true):gZ c=false:=by
 unfold gZ; simp at h ⊢; omega
def bJ (s:ByteArray):Int:=bif mkB s then 11 else bif ig s == 9 then (bif tY s then 9 else 0) else bif ig s == 0 then 0 else bif lU s then (bif ig s == 6 && kwB s then 10 else ig s) else 0
theorem GZ {l:List ByteArray} {s:ByteArray} (h:inB l s=true):s ∈ l:=by
 unfold inB at h
 rw [List.any_eq_true] at h
 obtain ⟨t,ht,e⟩:=h
 have:t=s:=by
  have e:=beq_iff_eq.1 e
  rw [toList_data,toList_data] at e
  rw [← Lib.mk_data t,← Lib.mk_data s,e]
 rw [← this]; exact ht
theorem Tj (s:ByteArray) (h:mkB s=true):ig s=9∨ig s=0:=by
 have hm:=GZ h
 simp only [mkT,List.mem_cons,List.not_mem_nil,or_false] at hm
 rcases hm with e | e | e | e | e | e | e | e | e | e | e | e <;> subst e <;> rw [jD _ (by decide)] <;> decide
theorem MG (s:ByteArray) (h:kwB s=true):ig s=6∧lU s=true:=by
 have hm:=GZ h
 simp only [kwT,List.mem_cons,List.not_mem_nil,or_false] at hm
 rcases hm with e | e | e | e | e | e | e | e | e | e | e | e | e | e | e | e | e | e | e | e | e | e | e | e | e <;> subst e <;> (constructor; (rw [jD _ (by decide)]; decide); decide)
theorem Jc (s:ByteArray):ig s=0∨ig s=6∨ig s=7∨ig s=8∨ig s=9:=by
 by_cases h:0 < s.size
 ·rw [jD s h]; cases fP s[0] <;> cases gZ s[0] <;> cases bC s[0] <;> cases ((s[0].toNat:Int) == 39) <;> cases uQ s <;> simp
 ·rw [vK s (by omega)]; simp
theorem LV (s:ByteArray) (h:ig s=6∨ig s=7∨ig s=8):mkB s=false:=by
 cases e:mkB s
 ·rfl
 ·have:=Tj s e; omega
theorem Nw (s:ByteArray) (h:ig s≠6):kwB s=false:=by
 cases e:kwB s
 ·rfl
 ·exact absurd (MG s e).1 h
theorem mg (s:ByteArray) (h:ig s=6∨ig s=7∨ig s=8):0 < s.size∧lU s=lU (s.extract 1 s.size):=by
 by_cases h0:0 < s.size
 ·refine ⟨h0,?_⟩
  rw [zu s h0]
  have:bg s[0]=true:=by
   rw [jD s h0] at h
   cases e1:fP s[0]
   ·cases e2:gZ s[0]
    ·cases e3:bC s[0]
     ·cases e4:((s[0].toNat:Int) == 39)
      ·simp [e1,e2,e3,e4] at h
      ·exact JO _ e4
     ·simp [e1,e2,e3] at h
    ·exact Cc _ e2
   ·exact DL _ e1
  rw [this,Bool.true_and]
 ·rw [vK s (by omega)] at h; omega
set_option linter.unusedSimpArgs false
theorem Og (s:ByteArray) (h:ig s=6):bJ s=bif kwB s then 10 else bif lU (s.extract 1 s.size) then 6 else 0:=by
 have hm:=LV s (.inl h)
 have hf:=(mg s (.inl h)).2
 unfold bJ
 rw [hm,h,← hf]
 cases hk:kwB s
 ·cases lU s <;> rfl
 ·rw [(MG s hk).2]; rfl
theorem xq (s:ByteArray) (x:Int) (hx:x=7∨x=8) (h:ig s=x):bJ s=bif lU (s.extract 1 s.size) then x else 0:=by
 have hm:=LV s (by omega)
 have hf:=(mg s (by omega)).2
 have hk:=Nw s (by omega)
 unfold bJ
 rw [hm,h,← hf,hk]
 rcases hx with e | e <;> subst e <;> cases lU s <;> rfl
theorem JZ (s:ByteArray) (h:ig s=9):bJ s=bif tY s && !mkB s then 9 else bif mkB s then 11 else 0:=by
 unfold bJ
 rw [h]
 cases mkB s <;> cases tY s <;> rfl
theorem JJ (s:ByteArray) (h:ig s=0):bJ s=bif mkB s then 11 else 0:=by
 unfold bJ
 rw [h]
 cases mkB s <;> rfl
set_option maxHeartbeats 1000000 in
theorem Lr (s:ByteArray) (w:World) (hk:Kw w) (hs:s.size≤9223372036854775807):Calls prog 69 #[.string s] w fun e w'=>e=.returned (.int .i64 (bJ s))∧w=w':=by
 have HB:=JA s w hs
 have HM:=Om s w
 rcases Jc s with h | h | h | h | h
 ·have HN:=hid (JJ s h)
  rw [h] at HB
  clear h hk
  cases hm:mkB s <;> simp only [hm,cond_true,cond_false] at HN HM <;> clear hm
  all_goals
   go_enter func69,ntmps69
   go_wp2_with (first | (go_at_call 105; refine HB.mono ?_; rintro e w1 ⟨rfl,rfl⟩) | (go_at_call 110; refine HM.mono ?_; rintro e w1 ⟨rfl,rfl⟩))
   go_ret
   exact ⟨bK HN.out.symm,rfl⟩
 ·have HN:=hid (Og s h)
  have hp:=(mg s (.inl h)).1
  have HK:=Bj s w hk
  have HA:=vZ (s.extract 1 s.size) w (by simp; omega)
  rw [h] at HB
  clear h hk
  cases hm:kwB s
  case true =>
   simp only [hm,cond_true,cond_false] at HN HK
   clear hm HA
   go_enter func69,ntmps69
   go_wp2_with (first | (go_at_call 105; refine HB.mono ?_; rintro e w1 ⟨rfl,rfl⟩) | (go_at_call 106; refine HK.mono ?_; rintro e w1 ⟨rfl,rfl⟩))
   go_ret
   exact ⟨bK HN.out.symm,rfl⟩
  simp only [hm,cond_true,cond_false] at HN HK
  clear hm
  cases hm:lU (s.extract 1 s.size) <;> simp only [hm,cond_true,cond_false] at HN HA <;> clear hm
  all_goals
   go_enter func69,ntmps69
   go_wp2_with (first | (go_at_call 105; refine HB.mono ?_; rintro e w1 ⟨rfl,rfl⟩) | (go_at_call 106; refine HK.mono ?_; rintro e w1 ⟨rfl,rfl⟩) | (go_at_call 107; refine HA.mono ?_; rintro e w1 ⟨rfl,rfl⟩))
   go_ret
   exact ⟨bK HN.out.symm,rfl⟩
 ·have HN:=hid (xq s 7 (.inl rfl) h)
  have hp:=(mg s (.inr (.inl h))).1
  have HA:=vZ (s.extract 1 s.size) w (by simp; omega)
  rw [h] at HB
  clear h hk
  cases hm:lU (s.extract 1 s.size) <;> simp only [hm,cond_true,cond_false] at HN HA <;> clear hm
  all_goals
   go_enter func69,ntmps69
   go_wp2_with (first | (go_at_call 105; refine HB.mono ?_; rintro e w1 ⟨rfl,rfl⟩) | (go_at_call 107; refine HA.mono ?_; rintro e w1 ⟨rfl,rfl⟩))
   go_ret
   exact ⟨bK HN.out.symm,rfl⟩
 ·have HN:=hid (xq s 8 (.inr rfl) h)
  have hp:=(mg s (.inr (.inr h))).1
  have HA:=vZ (s.extract 1 s.size) w (by simp; omega)
  rw [h] at HB
  clear h hk
  cases hm:lU (s.extract 1 s.size) <;> simp only [hm,cond_true,cond_false] at HN HA <;> clear hm
  all_goals
   go_enter func69,ntmps69
   go_wp2_with (first | (go_at_call 105; refine HB.mono ?_; rintro e w1 ⟨rfl,rfl⟩) | (go_at_call 107; refine HA.mono ?_; rintro e w1 ⟨rfl,rfl⟩))
   go_ret
   exact ⟨bK HN.out.symm,rfl⟩
 ·have HN:=hid (JZ s h)
  have HA:=NQ s w hs
  rw [h] at HB
  clear h hk
  cases hm:mkB s <;> cases ha:tY s <;> simp only [hm,ha,cond_true,cond_false,Bool.not_true,Bool.not_false,Bool.and_true,Bool.and_false] at HN HM HA <;> clear hm ha
  all_goals
   go_enter func69,ntmps69
   go_wp2_with (first | (go_at_call 105; refine HB.mono ?_; rintro e w1 ⟨rfl,rfl⟩) | (go_at_call 107; refine HA.mono ?_; rintro e w1 ⟨rfl,rfl⟩) | (go_at_call 110; refine HM.mono ?_; rintro e w1 ⟨rfl,rfl⟩))
   go_ret
   exact ⟨bK HN.out.symm,rfl⟩
def az {σ:Type} (f:σ→UInt8→σ × Bool):σ→List UInt8→Nat
 | _,[]=>0
 | s,c :: r=>bif (f s c).2 then az f (f s c).1 r+1 else 0
theorem eP {σ:Type} (f:σ→UInt8→σ × Bool) (s:σ) (l:List UInt8):az f s l≤l.length:=by
 induction l generalizing s with
 | nil=>simp [az]
 | cons c r ih=>simp only [az,List.length_cons]; have:=ih (f s c).1; cases (f s c).2 <;> simp <;> omega
theorem drop_at (s:ByteArray) (k:Nat) (h:k < s.size):s.data.toList.drop k=s[k] :: s.data.toList.drop (k+1):=by
 rw [← jy s k h,List.getElem_cons_drop]
theorem Nr {σ:Type} (f:σ→UInt8→σ × Bool) (q:σ) (s:ByteArray) (k:Nat) (h:k < s.size):az f q (s.data.toList.drop k)=bif (f q s[k]).2 then az f (f q s[k]).1 (s.data.toList.drop (k+1))+1 else 0:=by
 rw [drop_at s k h]; rfl
theorem Jf {σ:Type} (f:σ→UInt8→σ × Bool) (q:σ) (s:ByteArray) (k:Nat) (h:s.size≤k):az f q (s.data.toList.drop k)=0:=by
 rw [List.drop_eq_nil_of_le (by rw [aW]; exact h)]; rfl
theorem Exit.jump_mono {l:Nat} {J J':Act→World→Prop} {Q:Exit→Act→World→Prop} (h:∀ a w,J a w→J' a w):∀ e a w,Exit.jump l J Q e a w→Exit.jump l J' Q e a w:=by
 intro e a w he
 cases e <;> first | exact he | exact ⟨he.1,h _ _ he.2⟩
theorem xx {P:Program} {a:Act} {w:World} {Q:Exit→Act→World→Prop} {rest:Code} (l:Nat) (J:Act→World→Prop) (μ:Act→World→Nat)
  (h0:J a w) (pass:∀ a w,J a w→rest.wp P (Exit.jump l (fun a' w'=>J a' w'∧μ a' w' < μ a w) Q) a w):(Code.scope ((Code.label l).seq rest)).wp P Q a w:=by
 have hs:∀ a w,J a w→(Code.skip.seq rest).wp P (Exit.jump l (fun a' w'=>J a' w'∧μ a' w' < μ a w) Q) a w:=fun a w h=>wp_seq (wp_skip (pass a w h))
 refine wp_scope_jumps l J μ (by simp [findLabel]) ?_ hs
 exact wp_seq (wp_label (wp_mono (pass a w h0) (Exit.jump_mono fun _ _ h=>h.1)))
set_option maxHeartbeats 1000000 in
theorem xJ {σ:Type} (f:σ→UInt8→σ × Bool) (J:Nat→σ→World→Prop) (n:Nat) (cap:Array Value)
  (hcf:∀ args w,Sem.run prog (callFunc n args) w=.ok (.enter n args) w) (s:ByteArray) (hs:s.size≤1000000)
  (H:∀ k q c w,k < s.size→J k q w→Calls prog n (#[.int .u8 (c.toNat:Int)]++cap) w fun e w'=>e=.returned (.bool (f q c).2)∧J (k+1) (f q c).1 w')
  (at0:Nat) (ha:at0≤s.size) (q0:σ) (w:World) (h0:J at0 q0 w) :
  Calls prog 261 #[.string s,.int .i64 at0,.func (.func n) #[] cap] w fun e w'=>e=.returned (.int .i64 ((at0+az f q0 (s.data.toList.drop at0):Nat)))∧∃ k q,J k q w':=by
 have HH:=hid H
 clear H
 go_enter func261,ntmps261
 go_wp2
 refine xx 0 (fun a' w'=>∃ (k:Nat) (q:σ) (u7 u8 u9 u10 u11 u12 u13 u14 u15 u16 u17 u18 u19 u20:Value),k≤s.size∧Hid (at0+az f q0 (s.data.toList.drop at0)=k+az f q (s.data.toList.drop k))∧Hid (J k q w')∧a'={ tmps:=#[.string s,.int .i64 k,.func (.func n) #[] cap,undef,undef,undef,.int .i64 0,u7,u8,u9,u10,u11,u12,u13,u14,u15,u16,u17,u18,u19,u20],defers:=[] }) (fun a' _=>s.size - (intOf (a'.tmps.getD 1 undef)).toNat) ⟨at0,q0,undef,undef,undef,undef,undef,undef,undef,undef,undef,undef,undef,undef,undef,undef,ha,hid rfl,hid h0,rfl⟩ ?_
 rintro a' w' ⟨k,q,u7,u8,u9,u10,u11,u12,u13,u14,u15,u16,u17,u18,u19,u20,hk,HP,HJ,rfl⟩
 by_cases hlt:k < s.size
 ·have HX:=HH.out k q s[k] w' hlt HJ.out
  have hA:=Nr f q s k hlt
  cases hb:(f q s[k]).2
  ·rw [hb,cond_false] at hA
   rw [hb] at HX
   have HE:Hid (at0+az f q0 (s.data.toList.drop at0)=k):=hid (by rw [HP.out,hA]; rfl)
   clear hA hb
   go_wp2_with fail
   refine HX.mono ?_
   rintro e w1 ⟨rfl,h1⟩
   have H1:=hid h1
   clear h1
   go_wp2
   simp only [Exit.jump]
   go_ret
   exact ⟨bK (by rw [HE.out]),_,_,H1.out⟩
  ·rw [hb,cond_true] at hA
   rw [hb] at HX
   have HE:Hid (at0+az f q0 (s.data.toList.drop at0)=k+1+az f (f q s[k]).1 (s.data.toList.drop (k+1))):=hid (by rw [HP.out,hA]; omega)
   clear hA hb
   go_wp2_with fail
   refine HX.mono ?_
   rintro e w1 ⟨rfl,h1⟩
   have H1:=hid h1
   clear h1
   go_wp2
   go_step3
   refine ⟨rfl,⟨k+1,_,_,_,_,_,_,_,_,_,_,_,_,_,_,_,hlt,HE,H1,by go_num⟩,?_⟩
   simp [intOf]; omega
 ·have HE:Hid (at0+az f q0 (s.data.toList.drop at0)=k):=hid (by rw [HP.out,Jf f q s k (by omega)]; rfl)
  go_wp2
  simp only [Exit.jump]
  go_ret
  exact ⟨bK (by rw [HE.out]),_,_,HJ.out⟩
def eqB (c:UInt8) (n:Int):Bool:=(c.toNat:Int) == n
def bD (c:UInt8):Bool:=eqB c 32 || eqB c 9 || eqB c 10 || eqB c 13
def aU (g:UInt8→Bool):Unit→UInt8→Unit × Bool:=fun _ c=>((),g c)
def qF:Bool→UInt8→Bool × Bool:=fun e c=>bif e then (false,eqB c 34 || eqB c 92 || eqB c 110 || eqB c 116) else (eqB c 92,!eqB c 34 && !eqB c 10)
def nF:Int × UInt8→UInt8→(Int × UInt8) × Bool:=fun q c =>
 bif eqB q.2 40 && eqB c 42 then ((q.1+1,0),true) else bif eqB q.2 42 && eqB c 41 then ((q.1 - 1,0),decide (0 < q.1 - 1)) else ((q.1,c),true)
def fK (c:UInt8):Bool:=!eqB c 10
def headB (l:List UInt8) (n:Int):Bool:=match l with | []=>false | c :: _=>eqB c n
def dQ (r:List UInt8):Int × Nat :=
 let n:=az qF false r
 bif headB (r.drop n) 34 then (5,n+2) else (3,n+1+az (aU fK) () (r.drop n))
def eU (l:List UInt8):Int × Nat :=
 let n:=az nF (0,0) l
 bif n == l.length then (3,n) else (2,n+1)
def bsOf (l:List UInt8):ByteArray:=⟨l.toArray⟩
def df (p:List UInt8):Int:=match p with
 | []=>3
 | c :: _=>bif dW c then (bif az (aU dW) () p == p.length then 4 else 3) else bif bJ (bsOf p) == 0 then 3 else bJ (bsOf p)
def bf (l:List UInt8):Int × Nat:=match l with
 | []=>(0,0)
 | c :: r =>
  bif bD c then (1,az (aU bD) () l)
  else bif eqB c 34 then dQ r
  else bif eqB c 40 && headB r 42 then eU l
  else bif bg c then (df (l.take (az (aU bg) () l)),az (aU bg) () l)
  else bif bC c then (df (l.take (az (aU bC) () l)),az (aU bC) () l)
  else (df (l.take 1),1)
structure Tok where
 k:Int
 a:Nat
 e:Nat
def dB:Nat→Nat→List UInt8→List Tok
 | 0,_,_=>[]
 | n+1,a,l=>bif l.isEmpty then [] else ⟨(bf l).1,a,a+(bf l).2⟩ :: dB n (a+(bf l).2) (l.drop (bf l).2)
def aae (l:List UInt8):List Tok:=dB l.length 0 l++[⟨0,l.length,l.length⟩]
theorem oU {g:UInt8→Bool} {c:UInt8} {r:List UInt8} (h:g c=true):0 < az (aU g) () (c :: r):=by
 simp [az,aU,h]
theorem sF (r:List UInt8):0 < (dQ r).2∧(dQ r).2≤r.length+1:=by
 have h1:=eP qF false r
 unfold dQ
 simp only
 cases h:headB (r.drop (az qF false r)) 34
 ·have h2:=eP (aU fK) () (r.drop (az qF false r))
  simp at h2 ⊢; omega
 ·have:az qF false r < r.length:=by
   apply Nat.lt_of_not_le
   intro hle
   rw [List.drop_eq_nil_of_le hle] at h
   simp [headB] at h
  simp; omega
theorem uF (l:List UInt8) (h:0 < l.length):0 < (eU l).2∧(eU l).2≤l.length:=by
 have h1:=eP nF (0,0) l
 unfold eU
 simp only
 cases e:(az nF (0,0) l == l.length)
 ·simp at e ⊢; omega
 ·simp at e ⊢; omega
theorem jL (l:List UInt8) (h:l≠[]):0 < (bf l).2∧(bf l).2≤l.length:=by
 cases l with
 | nil=>exact absurd rfl h
 | cons c r =>
  unfold bf
  simp only
  cases h1:bD c
  ·cases h2:eqB c 34
   ·cases h3:(eqB c 40 && headB r 42)
    ·cases h4:bg c
     ·cases h5:bC c
      ·simp
      ·exact ⟨oU h5,eP _ _ _⟩
     ·exact ⟨oU h4,eP _ _ _⟩
    ·exact uF _ (by simp)
   ·have:=sF r
    exact ⟨this.1,by simpa using this.2⟩
  ·exact ⟨oU h1,eP _ _ _⟩
theorem wJ (n m:Nat) (a:Nat) (l:List UInt8) (hn:l.length≤n) (hm:l.length≤m):dB n a l=dB m a l:=by
 induction n generalizing m a l with
 | zero =>
  have:l=[]:=List.length_eq_zero_iff.1 (by omega)
  subst this
  cases m <;> simp [dB]
 | succ n ih =>
  cases l with
  | nil=>cases m <;> simp [dB]
  | cons c r =>
   cases m with
   | zero=>simp at hm
   | succ m =>
    have hb:=jL (c :: r) (by simp)
    simp only [dB,List.isEmpty_cons,cond_false]
    rw [ih m _ _ (by simp at hn ⊢; omega) (by simp at hm ⊢; omega)]
theorem GG (s:ByteArray) (a:Nat) (h:a < s.size):dB s.size a (s.data.toList.drop a)=⟨(bf (s.data.toList.drop a)).1,a,a+(bf (s.data.toList.drop a)).2⟩ :: dB s.size (a+(bf (s.data.toList.drop a)).2) (s.data.toList.drop (a+(bf (s.data.toList.drop a)).2)):=by
 have hl:(s.data.toList.drop a).length≤s.size:=by rw [List.length_drop,aW]; omega
 rw [wJ s.size (s.size+1) a _ hl (by omega)]
 simp only [dB]
 rw [List.drop_drop]
 rw [drop_at s a h]
 simp
theorem Du (s:ByteArray) (a n:Nat) (h:s.size≤a):dB n a (s.data.toList.drop a)=[]:=by
 rw [List.drop_eq_nil_of_le (by rw [aW]; exact h)]
 cases n <;> simp [dB]
end Go.Proofs.YtmpmfamiegpmgaaGreatDoor
