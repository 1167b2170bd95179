/-
  DERIVED: THE SHELF's CONTRACTS AT THIS DUMP, IN PLAIN WORDS (tools/lay-plain.mjs out of 'TryzShelf.lean', which tools/lay-shelf.mjs wrote): THE SAME DECLARATIONS UNDER THE SAME NAMES: 'import', 'namespace', 'open', 'def', 'theorem' AND NOTHING ELSE: no command of the shelf's: FOR A HAND-IN. Each laying: the table of numbers ('.._ren') and one theorem, a field a fact of the dump's own or the kernel's comparison; each contract: ONE APPLICATION.; What all walks of this seat share: bytes and their kinds, rows of texts as they lie in memory.; Keywords and marks: the rows, and which texts are on them.; Rows of texts: is a text on one; the rows of marks and keywords that the document's side makes.; Is each byte of a text as asked: rests, signs' bytes.; Kind, by the way of the program.; pass, for any machine.; What the tokens of a text are, by the way of the program: a plain model on lists of bytes.
-/
import Derived.Shelf.Small.Strs
import Derived.Shelf.Strings.Search1
import Derived.Shelf.Strings.Prefix
import Derived.Test.YtmpmfamiegpmgaaGreatDoorProg
import Derived.KernelRfl
import Derived.RowKit
import Derived.WalkKit
import Derived.WalkLawsBesides
import Derived.Below
import Derived.Deep.Draws
import Derived.Lib.Hide
import Derived.Handy
import Derived.RegionTactic
import Derived.ChangeAlike
import Derived.Deep.QuietTactic
import Derived.BigQuiet
import Derived.Laws.AppendOwn
import Derived.Laws.OwnMore
import Derived.IntWalk
import Derived.Lib.IndexAny
import Derived.Lib.Strings
import Derived.Laws.Rows
import Derived.ScopeJumps
import Derived.WalkMore
namespace Go.Proofs
open Go.Shelf
def Tryz.lays137_ren:Go.Shelf.Ren:=⟨fun | 137=>155 | 217=>199 | 266=>254 | n=>n,fun | 9=>9 | 5=>5 | 3=>3 | n=>n,fun | n=>n⟩
theorem Tryz.lays137:Go.Proofs.Lays.n137 Tryz.prog Tryz.lays137_ren:={
 mixed:=by kernel_rfl
 f137:=Tryz.func155.trans (congrArg some (by kernel_rfl))
 f217:=Tryz.func199.trans (congrArg some (by kernel_rfl))
 f266:=Tryz.func254.trans (congrArg some (by kernel_rfl))
 t3:=Tryz.underlying3
 a3:=Tryz.isAgg3
 z3:=Tryz.sizeOf3
 v3:=Tryz.zeroValue3
 t5:=Tryz.underlying5
 a5:=Tryz.isAgg5
 z5:=Tryz.sizeOf5
 v5:=Tryz.zeroValue5
 t9:=Tryz.underlying9
 a9:=Tryz.isAgg9
 z9:=Tryz.sizeOf9
 v9:=Tryz.zeroValue9 }
open Go.RowKit in
/-- strings.IndexByte: "IndexByte returns the index of the first instance of c in s, or -1 if c is not present in s.": IT RETURNS 'Lib.indexByte s c'; the world is as it was. (LAID: no walk: one application.) -/
theorem Tryz.strings_IndexByte (s:ByteArray) (c:Int) (w:World) :
  Calls Tryz.prog 155 #[.string s,.int .u8 c] w fun e w'=>e=.returned (.int .i64 (Lib.indexByte s.data.toList c.toNat.toUInt8))∧w'=w:=Any.strings_IndexByte Tryz.lays137 s c w
def Tryz.lays217_ren:Go.Shelf.Ren:=⟨fun | 217=>199 | 266=>254 | n=>n,fun | 9=>9 | 5=>5 | 3=>3 | n=>n,fun | n=>n⟩
def Tryz.lays206_ren:Go.Shelf.Ren:=⟨fun | 206=>293 | n=>n,fun | 9=>9 | 4=>4 | 3=>3 | n=>n,fun | n=>n⟩
def Tryz.lays99_ren:Go.Shelf.Ren:=⟨fun | 99=>263 | 206=>293 | n=>n,fun | 9=>9 | 4=>4 | 3=>3 | n=>n,fun | n=>n⟩
theorem Tryz.lays99:Go.Proofs.Lays.n99 Tryz.prog Tryz.lays99_ren:={
 mixed:=by kernel_rfl
 f99:=Tryz.func263.trans (congrArg some (by kernel_rfl))
 f206:=Tryz.func293.trans (congrArg some (by kernel_rfl))
 t3:=Tryz.underlying3
 a3:=Tryz.isAgg3
 z3:=Tryz.sizeOf3
 v3:=Tryz.zeroValue3
 t4:=Tryz.underlying4
 a4:=Tryz.isAgg4
 z4:=Tryz.sizeOf4
 v4:=Tryz.zeroValue4
 t9:=Tryz.underlying9
 a9:=Tryz.isAgg9
 z9:=Tryz.sizeOf9
 v9:=Tryz.zeroValue9 }
open Go.RowKit Go.Lib in
/-- strings.HasPrefix: "HasPrefix reports whether the string s begins with prefix.": IT RETURNS 'Lib.hasPrefix s prefix'; the world is as it was. (LAID: no walk: one application.) -/
theorem Tryz.strings_HasPrefix (s p:ByteArray) (w:World) :
  Calls Tryz.prog 263 #[.string s,.string p] w fun e w'=>e=.returned (.bool (Lib.hasPrefix s.data.toList p.data.toList))∧w'=w:=Any.strings_HasPrefix Tryz.lays99 s p w
end Go.Proofs

namespace Go.Proofs.YtmpmfamiegpmgaaGreatDoor
open Go.RowKit
set_option linter.unusedVariables false

theorem ret_bool {a b:Bool} (h:a=b):Ending.returned (.bool a)=.returned (.bool b):=by rw [h]
theorem ret_int {k:IntKind} {a b:Int} (h:a=b):Ending.returned (.int k a)=.returned (.int k b):=by rw [h]
theorem below_drewN {N:Nat} {w w1:World} (h:Below N w w1) (n:Nat):Below N w (w1.drewN n):=⟨h.os,h.tape,h.output,h.size,h.block⟩

/-- A row of texts from a place on. -/
def At (w:World) (b off:Nat) (l:List ByteArray):Prop :=
 ∀ i,(h:i < l.length)→w.cell? ⟨b,off+i,none⟩=some (.string l[i])
theorem At.step {w w1:World} {b off:Nat} {l:List ByteArray} (h:At w b off l) (hb:b < w.heap.size) (hw:Below w.heap.size w w1):At w1 b off l :=
 fun i hi=>(hw.cell (p:=⟨b,_,none⟩) hb).trans (h i hi)
/-- A slice of texts reads as this list. -/
def In (w:World) (p:Option Addr) (n cap:Nat) (l:List ByteArray):Prop :=
 n=l.length∧(n=0∨∃ b off,p=some ⟨b,off,none⟩∧n≤cap∧b < w.heap.size∧At w b off l)
theorem In.step {w w1:World} {p:Option Addr} {n cap:Nat} {l:List ByteArray} (h:In w p n cap l) (hw:Below w.heap.size w w1):In w1 p n cap l:=by
 obtain ⟨hn,h0 | ⟨b,off,hp,hc,hb,hat⟩⟩:=h
 ·exact ⟨hn,.inl h0⟩
 ·exact ⟨hn,.inr ⟨b,off,hp,hc,Nat.lt_of_lt_of_le hb hw.size,hat.step hb hw⟩⟩

/-- The bytes of a text. -/
def bs (s:ByteArray):List UInt8:=s.data.toList

def lowB (c:UInt8):Bool:=decide (97≤c.toNat∧c.toNat≤122)
def capB (c:UInt8):Bool:=decide (65≤c.toNat∧c.toNat≤90)
def digB (c:UInt8):Bool:=decide (48≤c.toNat∧c.toNat≤57)
def restB (c:UInt8):Bool:=lowB c || capB c || digB c || ((c.toNat:Int) == 95) || ((c.toNat:Int) == 39)
def signL:List UInt8:=[33,37,38,36,35,43,45,47,58,60,61,62,63,64,92,126,96,94,124,42]
def signB (c:UInt8):Bool:=signL.contains c

theorem low_any (c:UInt8) (w:World):Calls Tryz.prog 152 #[.int .u8 (c.toNat:Int)] w fun e w'=>e=.returned (.bool (lowB c))∧w=w':=by
 have hc:=c.toNat_lt
 by_cases h1:97≤c.toNat
 ·have h:Hid (lowB c=decide ((c.toNat:Int)≤122)):=Lib.hid (by unfold lowB; rw [Bool.eq_iff_iff]; simp; omega)
  go_enter Tryz.func152,Tryz.ntmps152
  go_wp2
  go_ret
  exact ⟨ret_bool h.out.symm,rfl⟩
 ·have h:Hid (lowB c=false):=Lib.hid (by unfold lowB; simp; omega)
  go_enter Tryz.func152,Tryz.ntmps152
  go_wp2
  go_ret
  exact ⟨ret_bool h.out.symm,rfl⟩
theorem cap_any (c:UInt8) (w:World):Calls Tryz.prog 153 #[.int .u8 (c.toNat:Int)] w fun e w'=>e=.returned (.bool (capB c))∧w=w':=by
 have hc:=c.toNat_lt
 by_cases h1:65≤c.toNat
 ·have h:Hid (capB c=decide ((c.toNat:Int)≤90)):=Lib.hid (by unfold capB; rw [Bool.eq_iff_iff]; simp; omega)
  go_enter Tryz.func153,Tryz.ntmps153
  go_wp2
  go_ret
  exact ⟨ret_bool h.out.symm,rfl⟩
 ·have h:Hid (capB c=false):=Lib.hid (by unfold capB; simp; omega)
  go_enter Tryz.func153,Tryz.ntmps153
  go_wp2
  go_ret
  exact ⟨ret_bool h.out.symm,rfl⟩
theorem dig_any (c:UInt8) (w:World):Calls Tryz.prog 154 #[.int .u8 (c.toNat:Int)] w fun e w'=>e=.returned (.bool (digB c))∧w=w':=by
 have hc:=c.toNat_lt
 by_cases h1:48≤c.toNat
 ·have h:Hid (digB c=decide ((c.toNat:Int)≤57)):=Lib.hid (by unfold digB; rw [Bool.eq_iff_iff]; simp; omega)
  go_enter Tryz.func154,Tryz.ntmps154
  go_wp2
  go_ret
  exact ⟨ret_bool h.out.symm,rfl⟩
 ·have h:Hid (digB c=false):=Lib.hid (by unfold digB; simp; omega)
  go_enter Tryz.func154,Tryz.ntmps154
  go_wp2
  go_ret
  exact ⟨ret_bool h.out.symm,rfl⟩
theorem rest_any (c:UInt8) (w:World):Calls Tryz.prog 108 #[.int .u8 (c.toNat:Int)] w fun e w'=>e=.returned (.bool (restB c))∧w=w':=by
 have hc:=c.toNat_lt
 have H1:=fun w=>low_any c w
 have H2:=fun w=>cap_any c w
 have H3:=fun w=>dig_any c w
 have HR:Hid (restB c=(lowB c || capB c || digB c || ((c.toNat:Int) == 95) || ((c.toNat:Int) == 39))):=Lib.hid rfl
 cases h1:lowB c <;> cases h2:capB c <;> cases h3:digB c <;> simp only [h1,h2,h3] at H1 H2 H3 HR <;> clear h1 h2 h3
 all_goals
  go_enter Tryz.func108,Tryz.ntmps108
  go_wp2_with (first | (go_at_call 152; refine (H1 _).mono ?_; rintro e w1 ⟨rfl,rfl⟩) | (go_at_call 153; refine (H2 _).mono ?_; rintro e w1 ⟨rfl,rfl⟩) | (go_at_call 154; refine (H3 _).mono ?_; rintro e w1 ⟨rfl,rfl⟩))
 all_goals
  go_ret
  exact ⟨ret_bool (by rw [HR.out]; simp [*]),rfl⟩
theorem sign_any (c:UInt8) (w:World):Calls Tryz.prog 109 #[.int .u8 (c.toNat:Int)] w fun e w'=>e=.returned (.bool (signB c))∧w=w':=by
 have hc:=c.toNat_lt
 have HS:Hid (signB c=decide (0≤Lib.indexByte signL c)):=Lib.hid (Lib.contains_iff_indexByte signL c)
 have H1:∀ w,Calls Tryz.prog 155 #[.string ⟨#[33,37,38,36,35,43,45,47,58,60,61,62,63,64,92,126,96,94,124,42]⟩,.int .u8 (c.toNat:Int)] w fun e w'=>e=.returned (.int .i64 (Lib.indexByte signL c))∧w'=w:=fun w=>by
  have h:=Tryz.strings_IndexByte ⟨#[33,37,38,36,35,43,45,47,58,60,61,62,63,64,92,126,96,94,124,42]⟩ (c.toNat:Int) w
  have hcc:((c.toNat:Int)).toNat.toUInt8=c:=by simp
  rw [hcc] at h
  exact h
 generalize Lib.indexByte signL c=x at *
 go_enter Tryz.func109,Tryz.ntmps109
 go_wp2_with (go_at_call 155; refine (H1 _).mono ?_; rintro e w1 ⟨rfl,rfl⟩)
 go_ret
 exact ⟨ret_bool (by rw [HS.out]),rfl⟩
def sgnL:List UInt8:=[33,37,38,36,35,43,45,47,58,60,61,62,63,64,94,124,42,126]
theorem u8_eq (c n:UInt8):(c=n)=((c.toNat:Int)=(n.toNat:Int)):=by
 rw [← UInt8.toNat_inj,eq_iff_iff]; omega
end Go.Proofs.YtmpmfamiegpmgaaGreatDoor

namespace Go.Proofs.YtmpmfamiegpmgaaGreatDoor
open Go.RowKit
set_option linter.unusedVariables false

def kwT:List ByteArray:=[⟨#[97,110,100]⟩,⟨#[97,115]⟩,⟨#[99,97,115,101]⟩,⟨#[100,97,116,97,116,121,112,101]⟩,⟨#[101,108,115,101]⟩,⟨#[101,110,100]⟩,⟨#[102,110]⟩,⟨#[102,117,110]⟩,⟨#[102,117,110,99,116,111,114]⟩,⟨#[105,102]⟩,⟨#[105,110]⟩,⟨#[105,110,99,108,117,100,101]⟩,⟨#[108,101,116]⟩,⟨#[108,111,99,97,108]⟩,⟨#[111,102]⟩,⟨#[111,112]⟩,⟨#[111,112,101,110]⟩,⟨#[115,105,103]⟩,⟨#[115,105,103,110,97,116,117,114,101]⟩,⟨#[115,116,114,117,99,116]⟩,⟨#[115,116,114,117,99,116,117,114,101]⟩,⟨#[116,104,101,110]⟩,⟨#[116,121,112,101]⟩,⟨#[118,97,108]⟩,⟨#[119,104,101,114,101]⟩]
/-- A text is on a row. -/
def inB (l:List ByteArray) (s:ByteArray):Bool:=l.any fun t=>t.toList == s.toList
theorem inB_at {l:List ByteArray} {s:ByteArray} (k:Nat) (h:k < l.length) (he:((l[k]'h).toList == s.toList)=true):inB l s=true:=by
 unfold inB; rw [List.any_eq_true]; exact ⟨_,List.getElem_mem h,he⟩
theorem inB_none {l:List ByteArray} {s:ByteArray} (h:∀ j,(hj:j < l.length)→((l[j]'hj).toList == s.toList)=false):inB l s=false:=by
 unfold inB; rw [List.any_eq_false]; intro x hx
 obtain ⟨j,hj,e⟩:=List.getElem_of_mem hx
 rw [← e,h j hj]; simp
def kwB (s:ByteArray):Bool:=inB kwT s
def mkT:List ByteArray:=[⟨#[40]⟩,⟨#[41]⟩,⟨#[44]⟩,⟨#[46]⟩,⟨#[59]⟩,⟨#[95]⟩,⟨#[61]⟩,⟨#[61,62]⟩,⟨#[124]⟩,⟨#[58]⟩,⟨#[58,62]⟩,⟨#[45,62]⟩]
def mkB (s:ByteArray):Bool:=inB mkT s
def kwV:Array Value:=(kwT.map Value.string).toArray
/-- The array of keywords lies where it was laid. -/
def Kw (w:World):Prop:=(∃ t fr,w.heap[0]?=some (.cells kwV t fr))∧At w 0 0 kwT
theorem Kw.of {w:World} {t:TypeId} {fr:Nat × Nat} (h:w.heap[0]?=some (.cells kwV t fr)):Kw w:=by
 refine ⟨⟨t,fr,h⟩,fun i hi=>?_⟩
 rw [Nat.zero_add,cell_of_row w 0 i kwV t fr h]
 unfold kwV
 simp [hi]
theorem Kw.pos {w:World} (h:Kw w):0 < w.heap.size:=by
 obtain ⟨⟨t,fr,h⟩,_⟩:=h
 exact (Array.getElem?_eq_some_iff.1 h).1
theorem Kw.step {w w1:World} (h:Kw w) (hb:Below w.heap.size w w1):Kw w1:=by
 have hp:=h.pos
 obtain ⟨⟨t,fr,h⟩,_⟩:=h
 exact Kw.of (t:=t) (fr:=fr) ((hb.block 0 hp).trans h)

set_option maxHeartbeats 400000 in
theorem keyword_any (s:ByteArray) (w:World) (hk:Kw w):Calls Tryz.prog 106 #[.string s] w fun e w'=>e=.returned (.bool (kwB s))∧w=w':=by
 have HK:=Lib.hid hk.2
 clear hk
 go_enter Tryz.func106,Tryz.ntmps106
 go_wp2
 go_loop [4] (fun i=>∃ k:Nat,k≤25∧i=.int .i64 k∧Hid (∀ j,j < k→(hj:j < 25)→((kwT[j]'hj).toList == s.toList)=false)) (fun i=>25 - (intOf i).toNat)
 case atStart=>exact ⟨0,by omega,rfl,Lib.hid (fun j h=>by omega)⟩
 case round =>
  obtain ⟨k,hk,rfl,HJ⟩:=hrel
  by_cases hlt:k < 25
  ·have hc:w.cell? ⟨0,k,none⟩=some (.string (kwT[k]'hlt)):=by have:=HK.out k hlt; rw [Nat.zero_add] at this; exact this
   by_cases he:((kwT[k]'hlt).toList == s.toList)=true
   ·have HB:=Lib.hid (inB_at (l:=kwT) k hlt he)
    generalize kwT[k]'hlt=t at hc he
    go_wp2
    go_ret
    exact ⟨ret_bool HB.out.symm,rfl⟩
   ·have he:((kwT[k]'hlt).toList == s.toList)=false:=by simpa using he
    have HE:=Lib.hid he
    generalize kwT[k]'hlt=t at hc he
    go_wp2
    go_round
    case rel =>
     refine ⟨k+1,by omega,by go_num,Lib.hid fun j hj hj2=>?_⟩
     by_cases e:j=k
     ·subst e; exact HE.out
     ·exact HJ.out j (by omega) hj2
    case measure=>simp [intOf]; omega
  ·have HB:=Lib.hid (inB_none (l:=kwT) (s:=s) (fun j hj=>HJ.out j (by have:kwT.length=25:=rfl; omega) hj))
   go_wp2
   go_ret
   exact ⟨ret_bool (by unfold kwB; exact HB.out.symm),rfl⟩
theorem mk_iff (s:ByteArray):mkB s=((s.toList == [40]) || (s.toList == [41]) || (s.toList == [44]) || (s.toList == [46]) || (s.toList == [59]) || (s.toList == [95]) || (s.toList == [61]) || (s.toList == [61,62]) || (s.toList == [124]) || (s.toList == [58]) || (s.toList == [58,62]) || (s.toList == [45,62])):=by
 unfold mkB inB mkT
 simp only [List.any_cons,List.any_nil,Bool.or_false]
 have hh:∀ (a:ByteArray) (l:List UInt8),a.toList=l→(a.toList == s.toList)=(s.toList == l):=fun a l h=>by rw [h]; exact Bool.beq_comm
 rw [hh ⟨#[40]⟩ [40] (by simp [Lib.toList_data])]
 rw [hh ⟨#[41]⟩ [41] (by simp [Lib.toList_data])]
 rw [hh ⟨#[44]⟩ [44] (by simp [Lib.toList_data])]
 rw [hh ⟨#[46]⟩ [46] (by simp [Lib.toList_data])]
 rw [hh ⟨#[59]⟩ [59] (by simp [Lib.toList_data])]
 rw [hh ⟨#[95]⟩ [95] (by simp [Lib.toList_data])]
 rw [hh ⟨#[61]⟩ [61] (by simp [Lib.toList_data])]
 rw [hh ⟨#[61,62]⟩ [61,62] (by simp [Lib.toList_data])]
 rw [hh ⟨#[124]⟩ [124] (by simp [Lib.toList_data])]
 rw [hh ⟨#[58]⟩ [58] (by simp [Lib.toList_data])]
 rw [hh ⟨#[58,62]⟩ [58,62] (by simp [Lib.toList_data])]
 rw [hh ⟨#[45,62]⟩ [45,62] (by simp [Lib.toList_data])]
 simp only [Bool.or_assoc]
theorem mark_any (s:ByteArray) (w:World):Calls Tryz.prog 110 #[.string s] w fun e w'=>e=.returned (.bool (mkB s))∧w=w':=by
 have HM:=Lib.hid (mk_iff s)
 cases e0:(s.toList == [40])
 case true =>
  go_enter Tryz.func110,Tryz.ntmps110
  go_wp2
  go_ret
  exact ⟨ret_bool (by simp [HM.out, *]),rfl⟩
 cases e1:(s.toList == [41])
 case true =>
  go_enter Tryz.func110,Tryz.ntmps110
  go_wp2
  go_ret
  exact ⟨ret_bool (by simp [HM.out, *]),rfl⟩
 cases e2:(s.toList == [44])
 case true =>
  go_enter Tryz.func110,Tryz.ntmps110
  go_wp2
  go_ret
  exact ⟨ret_bool (by simp [HM.out, *]),rfl⟩
 cases e3:(s.toList == [46])
 case true =>
  go_enter Tryz.func110,Tryz.ntmps110
  go_wp2
  go_ret
  exact ⟨ret_bool (by simp [HM.out, *]),rfl⟩
 cases e4:(s.toList == [59])
 case true =>
  go_enter Tryz.func110,Tryz.ntmps110
  go_wp2
  go_ret
  exact ⟨ret_bool (by simp [HM.out, *]),rfl⟩
 cases e5:(s.toList == [95])
 case true =>
  go_enter Tryz.func110,Tryz.ntmps110
  go_wp2
  go_ret
  exact ⟨ret_bool (by simp [HM.out, *]),rfl⟩
 cases e6:(s.toList == [61])
 case true =>
  go_enter Tryz.func110,Tryz.ntmps110
  go_wp2
  go_ret
  exact ⟨ret_bool (by simp [HM.out, *]),rfl⟩
 cases e7:(s.toList == [61,62])
 case true =>
  go_enter Tryz.func110,Tryz.ntmps110
  go_wp2
  go_ret
  exact ⟨ret_bool (by simp [HM.out, *]),rfl⟩
 cases e8:(s.toList == [124])
 case true =>
  go_enter Tryz.func110,Tryz.ntmps110
  go_wp2
  go_ret
  exact ⟨ret_bool (by simp [HM.out, *]),rfl⟩
 cases e9:(s.toList == [58])
 case true =>
  go_enter Tryz.func110,Tryz.ntmps110
  go_wp2
  go_ret
  exact ⟨ret_bool (by simp [HM.out, *]),rfl⟩
 cases e10:(s.toList == [58,62])
 case true =>
  go_enter Tryz.func110,Tryz.ntmps110
  go_wp2
  go_ret
  exact ⟨ret_bool (by simp [HM.out, *]),rfl⟩
 cases e11:(s.toList == [45,62])
 case true =>
  go_enter Tryz.func110,Tryz.ntmps110
  go_wp2
  go_ret
  exact ⟨ret_bool (by simp [HM.out, *]),rfl⟩
 go_enter Tryz.func110,Tryz.ntmps110
 go_wp2
 go_ret
 exact ⟨ret_bool (by simp [HM.out, *]),rfl⟩
end Go.Proofs.YtmpmfamiegpmgaaGreatDoor

namespace Go.Proofs.YtmpmfamiegpmgaaGreatDoor
open Go.RowKit
set_option linter.unusedVariables false

def begN (s:ByteArray):Int:=match s.toList with
 | []=>0
 | c :: r=>bif lowB c then 6 else bif capB c then 7 else bif signB c then 9 else bif ((c.toNat:Int) == 39) then (match r with | []=>0 | d :: _=>bif lowB d then 8 else 0) else 0
theorem data_len (s:ByteArray):s.data.toList.length=s.size:=(Lib.size_eq s).symm
theorem data_at (s:ByteArray) (k:Nat) (h:k < s.size):s.data.toList[k]'(by rw [data_len]; exact h)=s[k]:=by
 rw [Array.getElem_toList]; rfl
theorem toList_one (s:ByteArray) (h:s.size=1):s.toList=[s[0]]:=by
 rw [Lib.toList_data]
 apply List.ext_getElem
 ·rw [data_len]; exact h
 ·intro i h1 h2
  simp at h2
  subst h2
  rw [data_at s 0 (by omega)]
  rfl
theorem toList_more (s:ByteArray) (h:1 < s.size):s.toList=s[0] :: s[1] :: s.data.toList.drop 2:=by
 rw [Lib.toList_data]
 have hl:=data_len s
 rw [← data_at s 0 (by omega),← data_at s 1 (by omega),List.getElem_cons_drop,List.getElem_cons_drop,List.drop_zero]
set_option maxHeartbeats 2000000 in
set_option maxRecDepth 20000 in
theorem begun_any (s:ByteArray) (w:World) (hm:s.size≤9223372036854775807):Calls Tryz.prog 105 #[.string s] w fun e w'=>e=.returned (.int .i64 (begN s))∧w=w':=by
 by_cases h0:s.size=0
 ·have he:s.toList=[]:=by rw [Lib.toList_data,← List.length_eq_zero_iff,← Lib.size_eq]; exact h0
  have HB:Hid (begN s=0):=Lib.hid (by unfold begN; rw [he])
  have hem:s.toList.isEmpty=true:=by rw [he]; rfl
  clear he
  go_enter Tryz.func105,Tryz.ntmps105
  go_wp2
  go_ret
  exact ⟨ret_int HB.out.symm,rfl⟩
 ·have hem:s.toList.isEmpty=false:=by
   rw [Lib.toList_data]
   cases e:s.data.toList with
   | nil=>have:=Lib.size_eq s; rw [e] at this; exact absurd this h0
   | cons=>rfl
  have hp:0 < s.size:=by omega
  have HL:=fun w=>low_any s[0] w
  have HC:=fun w=>cap_any s[0] w
  have HS:=fun w=>sign_any s[0] w
  by_cases h1:s.size=1
  ·have h1':s.size≤1:=by omega
   have HB:Hid (begN s=bif lowB s[0] then (6:Int) else bif capB s[0] then (7:Int) else bif signB s[0] then (9:Int) else bif ((s[0].toNat:Int) == 39) then (0:Int) else (0:Int)):=Lib.hid (by unfold begN; rw [toList_one s h1])
   clear h0 h1
   cases hHL:lowB s[0]
   case true =>
    simp only [hHL,cond_true] at HL HB; clear hHL
    go_enter Tryz.func105,Tryz.ntmps105
    go_wp2_with (first | (go_at_call 152; refine (HL _).mono ?_; rintro e w1 ⟨rfl,rfl⟩) | (go_at_call 153; refine (HC _).mono ?_; rintro e w1 ⟨rfl,rfl⟩) | (go_at_call 109; refine (HS _).mono ?_; rintro e w1 ⟨rfl,rfl⟩))
    go_ret
    exact ⟨ret_int HB.out.symm,rfl⟩
   simp only [hHL,cond_false] at HL HB; clear hHL
   cases hHC:capB s[0]
   case true =>
    simp only [hHC,cond_true] at HC HB; clear hHC
    go_enter Tryz.func105,Tryz.ntmps105
    go_wp2_with (first | (go_at_call 152; refine (HL _).mono ?_; rintro e w1 ⟨rfl,rfl⟩) | (go_at_call 153; refine (HC _).mono ?_; rintro e w1 ⟨rfl,rfl⟩) | (go_at_call 109; refine (HS _).mono ?_; rintro e w1 ⟨rfl,rfl⟩))
    go_ret
    exact ⟨ret_int HB.out.symm,rfl⟩
   simp only [hHC,cond_false] at HC HB; clear hHC
   cases hHS:signB s[0]
   case true =>
    simp only [hHS,cond_true] at HS HB; clear hHS
    go_enter Tryz.func105,Tryz.ntmps105
    go_wp2_with (first | (go_at_call 152; refine (HL _).mono ?_; rintro e w1 ⟨rfl,rfl⟩) | (go_at_call 153; refine (HC _).mono ?_; rintro e w1 ⟨rfl,rfl⟩) | (go_at_call 109; refine (HS _).mono ?_; rintro e w1 ⟨rfl,rfl⟩))
    go_ret
    exact ⟨ret_int HB.out.symm,rfl⟩
   simp only [hHS,cond_false] at HS HB; clear hHS
   cases hq:((s[0].toNat:Int) == 39)
   case false =>
    simp only [hq,cond_false] at HB
    go_enter Tryz.func105,Tryz.ntmps105
    go_wp2_with (first | (go_at_call 152; refine (HL _).mono ?_; rintro e w1 ⟨rfl,rfl⟩) | (go_at_call 153; refine (HC _).mono ?_; rintro e w1 ⟨rfl,rfl⟩) | (go_at_call 109; refine (HS _).mono ?_; rintro e w1 ⟨rfl,rfl⟩))
    go_ret
    exact ⟨ret_int HB.out.symm,rfl⟩
   simp only [hq,cond_true] at HB
   go_enter Tryz.func105,Tryz.ntmps105
   go_wp2_with (first | (go_at_call 152; refine (HL _).mono ?_; rintro e w1 ⟨rfl,rfl⟩) | (go_at_call 153; refine (HC _).mono ?_; rintro e w1 ⟨rfl,rfl⟩) | (go_at_call 109; refine (HS _).mono ?_; rintro e w1 ⟨rfl,rfl⟩))
   go_ret
   exact ⟨ret_int HB.out.symm,rfl⟩
  ·have h1':1 < s.size:=by omega
   have HB:Hid (begN s=bif lowB s[0] then (6:Int) else bif capB s[0] then (7:Int) else bif signB s[0] then (9:Int) else bif ((s[0].toNat:Int) == 39) then (bif lowB s[1] then (8:Int) else (0:Int)) else (0:Int)):=Lib.hid (by unfold begN; rw [toList_more s h1'])
   have HD:=fun w=>low_any s[1] w
   clear h0 h1
   cases hHL:lowB s[0]
   case true =>
    simp only [hHL,cond_true] at HL HB; clear hHL
    go_enter Tryz.func105,Tryz.ntmps105
    go_wp2_with (first | (go_at_call 152; refine (HL _).mono ?_; rintro e w1 ⟨rfl,rfl⟩) | (go_at_call 153; refine (HC _).mono ?_; rintro e w1 ⟨rfl,rfl⟩) | (go_at_call 109; refine (HS _).mono ?_; rintro e w1 ⟨rfl,rfl⟩) | (go_at_call 152; refine (HD _).mono ?_; rintro e w1 ⟨rfl,rfl⟩))
    go_ret
    exact ⟨ret_int HB.out.symm,rfl⟩
   simp only [hHL,cond_false] at HL HB; clear hHL
   cases hHC:capB s[0]
   case true =>
    simp only [hHC,cond_true] at HC HB; clear hHC
    go_enter Tryz.func105,Tryz.ntmps105
    go_wp2_with (first | (go_at_call 152; refine (HL _).mono ?_; rintro e w1 ⟨rfl,rfl⟩) | (go_at_call 153; refine (HC _).mono ?_; rintro e w1 ⟨rfl,rfl⟩) | (go_at_call 109; refine (HS _).mono ?_; rintro e w1 ⟨rfl,rfl⟩) | (go_at_call 152; refine (HD _).mono ?_; rintro e w1 ⟨rfl,rfl⟩))
    go_ret
    exact ⟨ret_int HB.out.symm,rfl⟩
   simp only [hHC,cond_false] at HC HB; clear hHC
   cases hHS:signB s[0]
   case true =>
    simp only [hHS,cond_true] at HS HB; clear hHS
    go_enter Tryz.func105,Tryz.ntmps105
    go_wp2_with (first | (go_at_call 152; refine (HL _).mono ?_; rintro e w1 ⟨rfl,rfl⟩) | (go_at_call 153; refine (HC _).mono ?_; rintro e w1 ⟨rfl,rfl⟩) | (go_at_call 109; refine (HS _).mono ?_; rintro e w1 ⟨rfl,rfl⟩) | (go_at_call 152; refine (HD _).mono ?_; rintro e w1 ⟨rfl,rfl⟩))
    go_ret
    exact ⟨ret_int HB.out.symm,rfl⟩
   simp only [hHS,cond_false] at HS HB; clear hHS
   cases hq:((s[0].toNat:Int) == 39)
   case false =>
    simp only [hq,cond_false] at HB
    go_enter Tryz.func105,Tryz.ntmps105
    go_wp2_with (first | (go_at_call 152; refine (HL _).mono ?_; rintro e w1 ⟨rfl,rfl⟩) | (go_at_call 153; refine (HC _).mono ?_; rintro e w1 ⟨rfl,rfl⟩) | (go_at_call 109; refine (HS _).mono ?_; rintro e w1 ⟨rfl,rfl⟩) | (go_at_call 152; refine (HD _).mono ?_; rintro e w1 ⟨rfl,rfl⟩))
    go_ret
    exact ⟨ret_int HB.out.symm,rfl⟩
   simp only [hq,cond_true] at HB
   cases hd:lowB s[1] <;> simp only [hd] at HD HB <;> clear hd
   all_goals
    go_enter Tryz.func105,Tryz.ntmps105
    go_wp2_with (first | (go_at_call 152; refine (HL _).mono ?_; rintro e w1 ⟨rfl,rfl⟩) | (go_at_call 153; refine (HC _).mono ?_; rintro e w1 ⟨rfl,rfl⟩) | (go_at_call 109; refine (HS _).mono ?_; rintro e w1 ⟨rfl,rfl⟩) | (go_at_call 152; refine (HD _).mono ?_; rintro e w1 ⟨rfl,rfl⟩))
    go_ret
    exact ⟨ret_int HB.out.symm,rfl⟩
end Go.Proofs.YtmpmfamiegpmgaaGreatDoor

namespace Go.Proofs.YtmpmfamiegpmgaaGreatDoor
open Go.RowKit
set_option linter.unusedVariables false

theorem allL_no {l:List UInt8} {f:UInt8→Bool} (k:Nat) (h:k < l.length) (he:f (l[k]'h)=false):l.all f=false:=by
 rw [List.all_eq_false]; exact ⟨_,List.getElem_mem h,by simp [he]⟩
theorem allL_yes {l:List UInt8} {f:UInt8→Bool} (h:∀ j,(hj:j < l.length)→f (l[j]'hj)=true):l.all f=true:=by
 rw [List.all_eq_true]; intro x hx
 obtain ⟨j,hj,e⟩:=List.getElem_of_mem hx
 rw [← e]; exact h j hj
def allR (s:ByteArray):Bool:=s.data.toList.all restB
def allS (s:ByteArray):Bool:=s.data.toList.all signB

set_option maxHeartbeats 400000 in
theorem allR_any (s:ByteArray) (w:World) (hs:s.size≤9223372036854775807):Calls Tryz.prog 107 #[.string s,.func (.func 108) #[] #[]] w fun e w'=>e=.returned (.bool (allR s))∧w=w':=by
 go_enter Tryz.func107,Tryz.ntmps107
 go_wp2
 go_loop [8] (fun i=>∃ k:Nat,k≤s.size∧i=.int .i64 k∧Hid (∀ j,j < k→(hj:j < s.data.toList.length)→restB (s.data.toList[j]'hj)=true)) (fun i=>s.size - (intOf i).toNat)
 case atStart=>exact ⟨0,by omega,rfl,Lib.hid (fun j h=>by omega)⟩
 case round =>
  obtain ⟨k,hk,rfl,HJ⟩:=hrel
  by_cases hlt:k < s.size
  ·have H:=fun w=>rest_any s[k] w
   cases hr:restB s[k]
   ·have HB:=Lib.hid (allL_no (f:=restB) (l:=s.data.toList) k (by rw [data_len]; exact hlt) (by rw [data_at s k hlt]; exact hr))
    simp only [hr] at H
    clear hr
    go_wp2_with (go_at_call 108; refine (H _).mono ?_; rintro e w1 ⟨rfl,rfl⟩)
    go_ret
    exact ⟨ret_bool HB.out.symm,rfl⟩
   ·have HE:=Lib.hid hr
    simp only [hr] at H
    clear hr
    go_wp2_with (go_at_call 108; refine (H _).mono ?_; rintro e w1 ⟨rfl,rfl⟩)
    go_round
    case rel =>
     refine ⟨k+1,by omega,by go_num,Lib.hid fun j hj hj2=>?_⟩
     by_cases e:j=k
     ·subst e; rw [data_at s j hlt]; exact HE.out
     ·exact HJ.out j (by omega) hj2
    case measure=>simp [intOf]; omega
  ·have HB:=Lib.hid (allL_yes (f:=restB) (l:=s.data.toList) (fun j hj=>HJ.out j (by have:=data_len s; omega) hj))
   go_wp2
   go_ret
   exact ⟨ret_bool HB.out.symm,rfl⟩
set_option maxHeartbeats 400000 in
theorem allS_any (s:ByteArray) (w:World) (hs:s.size≤9223372036854775807):Calls Tryz.prog 107 #[.string s,.func (.func 109) #[] #[]] w fun e w'=>e=.returned (.bool (allS s))∧w=w':=by
 go_enter Tryz.func107,Tryz.ntmps107
 go_wp2
 go_loop [8] (fun i=>∃ k:Nat,k≤s.size∧i=.int .i64 k∧Hid (∀ j,j < k→(hj:j < s.data.toList.length)→signB (s.data.toList[j]'hj)=true)) (fun i=>s.size - (intOf i).toNat)
 case atStart=>exact ⟨0,by omega,rfl,Lib.hid (fun j h=>by omega)⟩
 case round =>
  obtain ⟨k,hk,rfl,HJ⟩:=hrel
  by_cases hlt:k < s.size
  ·have H:=fun w=>sign_any s[k] w
   cases hr:signB s[k]
   ·have HB:=Lib.hid (allL_no (f:=signB) (l:=s.data.toList) k (by rw [data_len]; exact hlt) (by rw [data_at s k hlt]; exact hr))
    simp only [hr] at H
    clear hr
    go_wp2_with (go_at_call 109; refine (H _).mono ?_; rintro e w1 ⟨rfl,rfl⟩)
    go_ret
    exact ⟨ret_bool HB.out.symm,rfl⟩
   ·have HE:=Lib.hid hr
    simp only [hr] at H
    clear hr
    go_wp2_with (go_at_call 109; refine (H _).mono ?_; rintro e w1 ⟨rfl,rfl⟩)
    go_round
    case rel =>
     refine ⟨k+1,by omega,by go_num,Lib.hid fun j hj hj2=>?_⟩
     by_cases e:j=k
     ·subst e; rw [data_at s j hlt]; exact HE.out
     ·exact HJ.out j (by omega) hj2
    case measure=>simp [intOf]; omega
  ·have HB:=Lib.hid (allL_yes (f:=signB) (l:=s.data.toList) (fun j hj=>HJ.out j (by have:=data_len s; omega) hj))
   go_wp2
   go_ret
   exact ⟨ret_bool HB.out.symm,rfl⟩

def secB (s:ByteArray):Bool:=match s.toList with
 | _ :: d :: _=>lowB d
 | _=>false
theorem beg_eq (s:ByteArray) (h:0 < s.size):begN s=bif lowB s[0] then (6:Int) else bif capB s[0] then (7:Int) else bif signB s[0] then (9:Int) else bif (((s[0].toNat:Int) == 39) && secB s) then (8:Int) else (0:Int):=by
 by_cases h1:s.size=1
 ·unfold begN secB; rw [toList_one s h1]; simp
 ·unfold begN secB; rw [toList_more s (by omega)]; cases e:((s[0].toNat:Int) == 39) <;> simp only [e,cond_true,cond_false,Bool.true_and,Bool.false_and]
theorem beg_none (s:ByteArray) (h:s.size=0):begN s=0:=by
 have he:s.toList=[]:=by rw [Lib.toList_data,← List.length_eq_zero_iff,data_len]; exact h
 unfold begN; rw [he]
theorem data_cons (s:ByteArray) (h:0 < s.size):s.data.toList=s[0] :: s.data.toList.drop 1:=by
 rw [← data_at s 0 h,List.getElem_cons_drop,List.drop_zero]
theorem allR_cons (s:ByteArray) (h:0 < s.size):allR s=(restB s[0] && allR (s.extract 1 s.size)):=by
 unfold allR
 have e1:(s.extract 1 s.size).data.toList=s.data.toList.drop 1:=by
  rw [Lib.extract_data,List.take_of_length_le (by rw [List.length_drop,data_len]; omega)]
 rw [e1,← List.all_cons,← data_cons s h]
theorem low_rest (c:UInt8) (h:lowB c=true):restB c=true:=by unfold restB; rw [h]; simp
theorem cap_rest (c:UInt8) (h:capB c=true):restB c=true:=by unfold restB; rw [h]; simp
theorem tick_rest (c:UInt8) (h:((c.toNat:Int) == 39)=true):restB c=true:=by unfold restB; rw [h]; simp
theorem rest_sign (c:UInt8) (h:restB c=true):signB c=false:=by
 have h2:¬ (c ∈ signL):=by
  unfold restB lowB capB digB at h
  simp only [signL,List.mem_cons,List.not_mem_nil,or_false,u8_eq]
  simp at h ⊢
  omega
 unfold signB; simpa using h2
/-- The kind of a text. -/
def kindN (s:ByteArray):Int:=bif mkB s then 11 else bif begN s == 9 then (bif allS s then 9 else 0) else bif begN s == 0 then 0 else bif allR s then (bif begN s == 6 && kwB s then 10 else begN s) else 0
theorem inB_mem {l:List ByteArray} {s:ByteArray} (h:inB l s=true):s ∈ l:=by
 unfold inB at h
 rw [List.any_eq_true] at h
 obtain ⟨t,ht,e⟩:=h
 have:t=s:=by
  have e:=beq_iff_eq.1 e
  rw [Lib.toList_data,Lib.toList_data] at e
  rw [← Lib.mk_data t,← Lib.mk_data s,e]
 rw [← this]; exact ht
theorem mk_beg (s:ByteArray) (h:mkB s=true):begN s=9∨begN s=0:=by
 have hm:=inB_mem h
 simp only [mkT,List.mem_cons,List.not_mem_nil,or_false] at hm
 rcases hm with e | e | e | e | e | e | e | e | e | e | e | e <;> subst e <;> rw [beg_eq _ (by decide)] <;> decide
theorem kw_beg (s:ByteArray) (h:kwB s=true):begN s=6∧allR s=true:=by
 have hm:=inB_mem h
 simp only [kwT,List.mem_cons,List.not_mem_nil,or_false] at hm
 rcases hm with e | e | e | e | e | e | e | e | e | e | e | e | e | e | e | e | e | e | e | e | e | e | e | e | e <;> subst e <;> (constructor; (rw [beg_eq _ (by decide)]; decide); decide)
theorem beg_cases (s:ByteArray):begN s=0∨begN s=6∨begN s=7∨begN s=8∨begN s=9:=by
 by_cases h:0 < s.size
 ·rw [beg_eq s h]; cases lowB s[0] <;> cases capB s[0] <;> cases signB s[0] <;> cases ((s[0].toNat:Int) == 39) <;> cases secB s <;> simp
 ·rw [beg_none s (by omega)]; simp
theorem mk_not (s:ByteArray) (h:begN s=6∨begN s=7∨begN s=8):mkB s=false:=by
 cases e:mkB s
 ·rfl
 ·have:=mk_beg s e; omega
theorem kw_not (s:ByteArray) (h:begN s≠6):kwB s=false:=by
 cases e:kwB s
 ·rfl
 ·exact absurd (kw_beg s e).1 h
/-- Behind a first byte that begins a name with a letter. -/
theorem beg_first (s:ByteArray) (h:begN s=6∨begN s=7∨begN s=8):0 < s.size∧allR s=allR (s.extract 1 s.size):=by
 by_cases h0:0 < s.size
 ·refine ⟨h0,?_⟩
  rw [allR_cons s h0]
  have:restB s[0]=true:=by
   rw [beg_eq s h0] at h
   cases e1:lowB s[0]
   ·cases e2:capB s[0]
    ·cases e3:signB s[0]
     ·cases e4:((s[0].toNat:Int) == 39)
      ·simp [e1,e2,e3,e4] at h
      ·exact tick_rest _ e4
     ·simp [e1,e2,e3] at h
    ·exact cap_rest _ e2
   ·exact low_rest _ e1
  rw [this,Bool.true_and]
 ·rw [beg_none s (by omega)] at h; omega
end Go.Proofs.YtmpmfamiegpmgaaGreatDoor

namespace Go.Proofs.YtmpmfamiegpmgaaGreatDoor
open Go.RowKit
set_option linter.unusedVariables false
set_option linter.unusedSimpArgs false

theorem kind_six (s:ByteArray) (h:begN s=6):kindN s=bif kwB s then 10 else bif allR (s.extract 1 s.size) then 6 else 0:=by
 have hm:=mk_not s (.inl h)
 have hf:=(beg_first s (.inl h)).2
 unfold kindN
 rw [hm,h,← hf]
 cases hk:kwB s
 ·cases allR s <;> rfl
 ·rw [(kw_beg s hk).2]; rfl
theorem kind_seven (s:ByteArray) (x:Int) (hx:x=7∨x=8) (h:begN s=x):kindN s=bif allR (s.extract 1 s.size) then x else 0:=by
 have hm:=mk_not s (by omega)
 have hf:=(beg_first s (by omega)).2
 have hk:=kw_not s (by omega)
 unfold kindN
 rw [hm,h,← hf,hk]
 rcases hx with e | e <;> subst e <;> cases allR s <;> rfl
theorem kind_nine (s:ByteArray) (h:begN s=9):kindN s=bif allS s && !mkB s then 9 else bif mkB s then 11 else 0:=by
 unfold kindN
 rw [h]
 cases mkB s <;> cases allS s <;> rfl
theorem kind_zero (s:ByteArray) (h:begN s=0):kindN s=bif mkB s then 11 else 0:=by
 unfold kindN
 rw [h]
 cases mkB s <;> rfl

set_option maxHeartbeats 1000000 in
theorem kind_any (s:ByteArray) (w:World) (hk:Kw w) (hs:s.size≤9223372036854775807):Calls Tryz.prog 69 #[.string s] w fun e w'=>e=.returned (.int .i64 (kindN s))∧w=w':=by
 have HB:=begun_any s w hs
 have HM:=mark_any s w
 rcases beg_cases s with h | h | h | h | h
 ·have HN:=Lib.hid (kind_zero s h)
  rw [h] at HB
  clear h hk
  cases hm:mkB s <;> simp only [hm,cond_true,cond_false] at HN HM <;> clear hm
  all_goals
   go_enter Tryz.func69,Tryz.ntmps69
   go_wp2_with (first | (go_at_call 105; refine HB.mono ?_; rintro e w1 ⟨rfl,rfl⟩) | (go_at_call 110; refine HM.mono ?_; rintro e w1 ⟨rfl,rfl⟩))
   go_ret
   exact ⟨ret_int HN.out.symm,rfl⟩
 ·have HN:=Lib.hid (kind_six s h)
  have hp:=(beg_first s (.inl h)).1
  have HK:=keyword_any s w hk
  have HA:=allR_any (s.extract 1 s.size) w (by simp; omega)
  rw [h] at HB
  clear h hk
  cases hm:kwB s
  case true =>
   simp only [hm,cond_true,cond_false] at HN HK
   clear hm HA
   go_enter Tryz.func69,Tryz.ntmps69
   go_wp2_with (first | (go_at_call 105; refine HB.mono ?_; rintro e w1 ⟨rfl,rfl⟩) | (go_at_call 106; refine HK.mono ?_; rintro e w1 ⟨rfl,rfl⟩))
   go_ret
   exact ⟨ret_int HN.out.symm,rfl⟩
  simp only [hm,cond_true,cond_false] at HN HK
  clear hm
  cases hm:allR (s.extract 1 s.size) <;> simp only [hm,cond_true,cond_false] at HN HA <;> clear hm
  all_goals
   go_enter Tryz.func69,Tryz.ntmps69
   go_wp2_with (first | (go_at_call 105; refine HB.mono ?_; rintro e w1 ⟨rfl,rfl⟩) | (go_at_call 106; refine HK.mono ?_; rintro e w1 ⟨rfl,rfl⟩) | (go_at_call 107; refine HA.mono ?_; rintro e w1 ⟨rfl,rfl⟩))
   go_ret
   exact ⟨ret_int HN.out.symm,rfl⟩
 ·have HN:=Lib.hid (kind_seven s 7 (.inl rfl) h)
  have hp:=(beg_first s (.inr (.inl h))).1
  have HA:=allR_any (s.extract 1 s.size) w (by simp; omega)
  rw [h] at HB
  clear h hk
  cases hm:allR (s.extract 1 s.size) <;> simp only [hm,cond_true,cond_false] at HN HA <;> clear hm
  all_goals
   go_enter Tryz.func69,Tryz.ntmps69
   go_wp2_with (first | (go_at_call 105; refine HB.mono ?_; rintro e w1 ⟨rfl,rfl⟩) | (go_at_call 107; refine HA.mono ?_; rintro e w1 ⟨rfl,rfl⟩))
   go_ret
   exact ⟨ret_int HN.out.symm,rfl⟩
 ·have HN:=Lib.hid (kind_seven s 8 (.inr rfl) h)
  have hp:=(beg_first s (.inr (.inr h))).1
  have HA:=allR_any (s.extract 1 s.size) w (by simp; omega)
  rw [h] at HB
  clear h hk
  cases hm:allR (s.extract 1 s.size) <;> simp only [hm,cond_true,cond_false] at HN HA <;> clear hm
  all_goals
   go_enter Tryz.func69,Tryz.ntmps69
   go_wp2_with (first | (go_at_call 105; refine HB.mono ?_; rintro e w1 ⟨rfl,rfl⟩) | (go_at_call 107; refine HA.mono ?_; rintro e w1 ⟨rfl,rfl⟩))
   go_ret
   exact ⟨ret_int HN.out.symm,rfl⟩
 ·have HN:=Lib.hid (kind_nine s h)
  have HA:=allS_any s w hs
  rw [h] at HB
  clear h hk
  cases hm:mkB s <;> cases ha:allS s <;> simp only [hm,ha,cond_true,cond_false,Bool.not_true,Bool.not_false,Bool.and_true,Bool.and_false] at HN HM HA <;> clear hm ha
  all_goals
   go_enter Tryz.func69,Tryz.ntmps69
   go_wp2_with (first | (go_at_call 105; refine HB.mono ?_; rintro e w1 ⟨rfl,rfl⟩) | (go_at_call 107; refine HA.mono ?_; rintro e w1 ⟨rfl,rfl⟩) | (go_at_call 110; refine HM.mono ?_; rintro e w1 ⟨rfl,rfl⟩))
   go_ret
   exact ⟨ret_int HN.out.symm,rfl⟩
end Go.Proofs.YtmpmfamiegpmgaaGreatDoor

namespace Go.Proofs.YtmpmfamiegpmgaaGreatDoor
open Go.RowKit
set_option linter.unusedVariables false

/-- How many bytes a machine passes over. -/
def passN {σ:Type} (f:σ→UInt8→σ × Bool):σ→List UInt8→Nat
 | _,[]=>0
 | s,c :: r=>bif (f s c).2 then passN f (f s c).1 r+1 else 0
theorem passN_le {σ:Type} (f:σ→UInt8→σ × Bool) (s:σ) (l:List UInt8):passN f s l≤l.length:=by
 induction l generalizing s with
 | nil=>simp [passN]
 | cons c r ih=>simp only [passN,List.length_cons]; have:=ih (f s c).1; cases (f s c).2 <;> simp <;> omega
theorem drop_at (s:ByteArray) (k:Nat) (h:k < s.size):s.data.toList.drop k=s[k] :: s.data.toList.drop (k+1):=by
 rw [← data_at s k h,List.getElem_cons_drop]
theorem passN_at {σ:Type} (f:σ→UInt8→σ × Bool) (q:σ) (s:ByteArray) (k:Nat) (h:k < s.size):passN f q (s.data.toList.drop k)=bif (f q s[k]).2 then passN f (f q s[k]).1 (s.data.toList.drop (k+1))+1 else 0:=by
 rw [drop_at s k h]; rfl
theorem passN_end {σ:Type} (f:σ→UInt8→σ × Bool) (q:σ) (s:ByteArray) (k:Nat) (h:s.size≤k):passN f q (s.data.toList.drop k)=0:=by
 rw [List.drop_eq_nil_of_le (by rw [data_len]; exact h)]; rfl

theorem Exit.jump_mono {l:Nat} {J J':Act→World→Prop} {Q:Exit→Act→World→Prop} (h:∀ a w,J a w→J' a w):∀ e a w,Exit.jump l J Q e a w→Exit.jump l J' Q e a w:=by
 intro e a w he
 cases e <;> first | exact he | exact ⟨he.1,h _ _ he.2⟩
theorem wp_scope_label {P:Program} {a:Act} {w:World} {Q:Exit→Act→World→Prop} {rest:Code} (l:Nat) (J:Act→World→Prop) (μ:Act→World→Nat)
  (h0:J a w) (pass:∀ a w,J a w→rest.wp P (Exit.jump l (fun a' w'=>J a' w'∧μ a' w' < μ a w) Q) a w):(Code.scope ((Code.label l).seq rest)).wp P Q a w:=by
 have hs:∀ a w,J a w→(Code.skip.seq rest).wp P (Exit.jump l (fun a' w'=>J a' w'∧μ a' w' < μ a w) Q) a w:=fun a w h=>wp_seq (wp_skip (pass a w h))
 refine wp_scope_jumps l J μ (by simp [findLabel]) ?_ hs
 exact wp_seq (wp_label (wp_mono (pass a w h0) (Exit.jump_mono fun _ _ h=>h.1)))

set_option maxHeartbeats 1000000 in
theorem pass_any {σ:Type} (f:σ→UInt8→σ × Bool) (J:Nat→σ→World→Prop) (n:Nat) (cap:Array Value)
  (hcf:∀ args w,Sem.run Tryz.prog (callFunc n args) w=.ok (.enter n args) w) (s:ByteArray) (hs:s.size≤1000000)
  (H:∀ k q c w,k < s.size→J k q w→Calls Tryz.prog n (#[.int .u8 (c.toNat:Int)]++cap) w fun e w'=>e=.returned (.bool (f q c).2)∧J (k+1) (f q c).1 w')
  (at0:Nat) (ha:at0≤s.size) (q0:σ) (w:World) (h0:J at0 q0 w) :
  Calls Tryz.prog 261 #[.string s,.int .i64 at0,.func (.func n) #[] cap] w fun e w'=>e=.returned (.int .i64 ((at0+passN f q0 (s.data.toList.drop at0):Nat)))∧∃ k q,J k q w':=by
 have HH:=Lib.hid H
 clear H
 go_enter Tryz.func261,Tryz.ntmps261
 go_wp2
 refine wp_scope_label 0 (fun a' w'=>∃ (k:Nat) (q:σ) (u7 u8 u9 u10 u11 u12 u13 u14 u15 u16 u17 u18 u19 u20:Value),k≤s.size∧Hid (at0+passN f q0 (s.data.toList.drop at0)=k+passN f q (s.data.toList.drop k))∧Hid (J k q w')∧a'={ tmps:=#[.string s,.int .i64 k,.func (.func n) #[] cap,undef,undef,undef,.int .i64 0,u7,u8,u9,u10,u11,u12,u13,u14,u15,u16,u17,u18,u19,u20],defers:=[] }) (fun a' _=>s.size - (intOf (a'.tmps.getD 1 undef)).toNat) ⟨at0,q0,undef,undef,undef,undef,undef,undef,undef,undef,undef,undef,undef,undef,undef,undef,ha,Lib.hid rfl,Lib.hid h0,rfl⟩ ?_
 rintro a' w' ⟨k,q,u7,u8,u9,u10,u11,u12,u13,u14,u15,u16,u17,u18,u19,u20,hk,HP,HJ,rfl⟩
 by_cases hlt:k < s.size
 ·have HX:=HH.out k q s[k] w' hlt HJ.out
  have hA:=passN_at f q s k hlt
  cases hb:(f q s[k]).2
  ·rw [hb,cond_false] at hA
   rw [hb] at HX
   have HE:Hid (at0+passN f q0 (s.data.toList.drop at0)=k):=Lib.hid (by rw [HP.out,hA]; rfl)
   clear hA hb
   go_wp2_with fail
   refine HX.mono ?_
   rintro e w1 ⟨rfl,h1⟩
   have H1:=Lib.hid h1
   clear h1
   go_wp2
   simp only [Exit.jump]
   go_ret
   exact ⟨ret_int (by rw [HE.out]),_,_,H1.out⟩
  ·rw [hb,cond_true] at hA
   rw [hb] at HX
   have HE:Hid (at0+passN f q0 (s.data.toList.drop at0)=k+1+passN f (f q s[k]).1 (s.data.toList.drop (k+1))):=Lib.hid (by rw [HP.out,hA]; omega)
   clear hA hb
   go_wp2_with fail
   refine HX.mono ?_
   rintro e w1 ⟨rfl,h1⟩
   have H1:=Lib.hid h1
   clear h1
   go_wp2
   go_step3
   refine ⟨rfl,⟨k+1,_,_,_,_,_,_,_,_,_,_,_,_,_,_,_,hlt,HE,H1,by go_num⟩,?_⟩
   simp [intOf]; omega
 ·have HE:Hid (at0+passN f q0 (s.data.toList.drop at0)=k):=Lib.hid (by rw [HP.out,passN_end f q s k (by omega)]; rfl)
  go_wp2
  simp only [Exit.jump]
  go_ret
  exact ⟨ret_int (by rw [HE.out]),_,_,HJ.out⟩
end Go.Proofs.YtmpmfamiegpmgaaGreatDoor

namespace Go.Proofs.YtmpmfamiegpmgaaGreatDoor
open Go.RowKit
set_option linter.unusedVariables false

def eqB (c:UInt8) (n:Int):Bool:=(c.toNat:Int) == n
def blankB (c:UInt8):Bool:=eqB c 32 || eqB c 9 || eqB c 10 || eqB c 13
/-- A machine without a state. -/
def pureF (g:UInt8→Bool):Unit→UInt8→Unit × Bool:=fun _ c=>((),g c)
/-- Within a text: is the byte ahead a backslash that stands for something? -/
def qF:Bool→UInt8→Bool × Bool:=fun e c=>bif e then (false,eqB c 34 || eqB c 92 || eqB c 110 || eqB c 116) else (eqB c 92,!eqB c 34 && !eqB c 10)
/-- Within notes: how deep, and the byte ahead. -/
def nF:Int × UInt8→UInt8→(Int × UInt8) × Bool:=fun q c =>
 bif eqB q.2 40 && eqB c 42 then ((q.1+1,0),true) else bif eqB q.2 42 && eqB c 41 then ((q.1 - 1,0),decide (0 < q.1 - 1)) else ((q.1,c),true)
def lineB (c:UInt8):Bool:=!eqB c 10

def headB (l:List UInt8) (n:Int):Bool:=match l with | []=>false | c :: _=>eqB c n
/-- A text, of what stands behind its first byte. -/
def quoteN (r:List UInt8):Int × Nat :=
 let n:=passN qF false r
 bif headB (r.drop n) 34 then (5,n+2) else (3,n+1+passN (pureF lineB) () (r.drop n))
def noteN (l:List UInt8):Int × Nat :=
 let n:=passN nF (0,0) l
 bif n == l.length then (3,n) else (2,n+1)
def bsOf (l:List UInt8):ByteArray:=⟨l.toArray⟩
def plainN (p:List UInt8):Int:=match p with
 | []=>3
 | c :: _=>bif digB c then (bif passN (pureF digB) () p == p.length then 4 else 3) else bif kindN (bsOf p) == 0 then 3 else kindN (bsOf p)
def tokN (l:List UInt8):Int × Nat:=match l with
 | []=>(0,0)
 | c :: r =>
  bif blankB c then (1,passN (pureF blankB) () l)
  else bif eqB c 34 then quoteN r
  else bif eqB c 40 && headB r 42 then noteN l
  else bif restB c then (plainN (l.take (passN (pureF restB) () l)),passN (pureF restB) () l)
  else bif signB c then (plainN (l.take (passN (pureF signB) () l)),passN (pureF signB) () l)
  else (plainN (l.take 1),1)

structure Tok where
 k:Int
 a:Nat
 e:Nat
/-- The tokens from the place a on, but the end. -/
def scanF:Nat→Nat→List UInt8→List Tok
 | 0,_,_=>[]
 | n+1,a,l=>bif l.isEmpty then [] else ⟨(tokN l).1,a,a+(tokN l).2⟩ :: scanF n (a+(tokN l).2) (l.drop (tokN l).2)
def scanN (l:List UInt8):List Tok:=scanF l.length 0 l++[⟨0,l.length,l.length⟩]

theorem pass_pos {g:UInt8→Bool} {c:UInt8} {r:List UInt8} (h:g c=true):0 < passN (pureF g) () (c :: r):=by
 simp [passN,pureF,h]
theorem quoteN_bound (r:List UInt8):0 < (quoteN r).2∧(quoteN r).2≤r.length+1:=by
 have h1:=passN_le qF false r
 unfold quoteN
 simp only
 cases h:headB (r.drop (passN qF false r)) 34
 ·have h2:=passN_le (pureF lineB) () (r.drop (passN qF false r))
  simp at h2 ⊢; omega
 ·have:passN qF false r < r.length:=by
   apply Nat.lt_of_not_le
   intro hle
   rw [List.drop_eq_nil_of_le hle] at h
   simp [headB] at h
  simp; omega
theorem noteN_bound (l:List UInt8) (h:0 < l.length):0 < (noteN l).2∧(noteN l).2≤l.length:=by
 have h1:=passN_le nF (0,0) l
 unfold noteN
 simp only
 cases e:(passN nF (0,0) l == l.length)
 ·simp at e ⊢; omega
 ·simp at e ⊢; omega
theorem tokN_bound (l:List UInt8) (h:l≠[]):0 < (tokN l).2∧(tokN l).2≤l.length:=by
 cases l with
 | nil=>exact absurd rfl h
 | cons c r =>
  unfold tokN
  simp only
  cases h1:blankB c
  ·cases h2:eqB c 34
   ·cases h3:(eqB c 40 && headB r 42)
    ·cases h4:restB c
     ·cases h5:signB c
      ·simp
      ·exact ⟨pass_pos h5,passN_le _ _ _⟩
     ·exact ⟨pass_pos h4,passN_le _ _ _⟩
    ·exact noteN_bound _ (by simp)
   ·have:=quoteN_bound r
    exact ⟨this.1,by simpa using this.2⟩
  ·exact ⟨pass_pos h1,passN_le _ _ _⟩
theorem scanF_fuel (n m:Nat) (a:Nat) (l:List UInt8) (hn:l.length≤n) (hm:l.length≤m):scanF n a l=scanF m a l:=by
 induction n generalizing m a l with
 | zero =>
  have:l=[]:=List.length_eq_zero_iff.1 (by omega)
  subst this
  cases m <;> simp [scanF]
 | succ n ih =>
  cases l with
  | nil=>cases m <;> simp [scanF]
  | cons c r =>
   cases m with
   | zero=>simp at hm
   | succ m =>
    have hb:=tokN_bound (c :: r) (by simp)
    simp only [scanF,List.isEmpty_cons,cond_false]
    rw [ih m _ _ (by simp at hn ⊢; omega) (by simp at hm ⊢; omega)]
/-- One token at a time. -/
theorem scan_at (s:ByteArray) (a:Nat) (h:a < s.size):scanF s.size a (s.data.toList.drop a)=⟨(tokN (s.data.toList.drop a)).1,a,a+(tokN (s.data.toList.drop a)).2⟩ :: scanF s.size (a+(tokN (s.data.toList.drop a)).2) (s.data.toList.drop (a+(tokN (s.data.toList.drop a)).2)):=by
 have hl:(s.data.toList.drop a).length≤s.size:=by rw [List.length_drop,data_len]; omega
 rw [scanF_fuel s.size (s.size+1) a _ hl (by omega)]
 simp only [scanF]
 rw [List.drop_drop]
 rw [drop_at s a h]
 simp
theorem scan_end (s:ByteArray) (a n:Nat) (h:s.size≤a):scanF n a (s.data.toList.drop a)=[]:=by
 rw [List.drop_eq_nil_of_le (by rw [data_len]; exact h)]
 cases n <;> simp [scanF]
end Go.Proofs.YtmpmfamiegpmgaaGreatDoor
