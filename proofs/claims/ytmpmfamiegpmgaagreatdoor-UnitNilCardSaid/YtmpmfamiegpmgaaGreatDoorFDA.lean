/-
  The law UnitNil, out of its example.; The law UnitNil, as its row wants it.
-/
import Derived.Test.YtmpmfamiegpmgaaGreatDoorFCD
namespace Go.Proofs.YtmpmfamiegpmgaaGreatDoor
open Go.RowKit
set_option maxRecDepth 20000
set_option linter.unusedVariables false
set_option linter.unusedSimpArgs false

set_option maxHeartbeats 4000000 in
theorem unitNil_of (file x:Int) (w:World) (hk:Kw w) (hal:∀ w,Kw w→Calls Tryz.prog 38 #[] w fun e w'=>e=.returned (.bool true)∧Below w.heap.size w w') :
  Calls Tryz.prog 14 #[.int .i64 file,.int .i64 x] w fun e w'=>e=.returned (.bool true)∧Below w.heap.size w w':=by
 have HA:=Lib.hid hal
 have HK:=Lib.hid hk
 have H1:=Lib.hid (at_nil w file x)
 clear hal hk
 go_enter Tryz.func14,Tryz.ntmps14
 go_wp2_with fail
 refine H1.out.mono ?_
 rintro e w1 ⟨rfl,hb1⟩
 have H2:=Lib.hid (text_nil w1 file)
 have HB1:=Lib.hid hb1
 clear hb1 H1
 go_wp2_with fail
 refine H2.out.mono ?_
 rintro e w2 ⟨rfl,hb2⟩
 have hb3:=HB1.out.trans (hb2.mono HB1.out.size)
 have H3:=Lib.hid (files_nil w2)
 have H4:=Lib.hid (nodes_nil w2)
 have H5:=Lib.hid (occs_nil w2)
 have H6:=Lib.hid (names_nil w2)
 have H7:=Lib.hid (opens_nil w2)
 have H8:=Lib.hid (HA.out w2 (HK.out.step hb3))
 have HB3:=Lib.hid hb3
 clear hb2 hb3 H2
 go_wp2_with fail
 refine H3.out.mono ?_
 rintro e w4 ⟨rfl,rfl⟩
 go_wp2_with fail
 refine H4.out.mono ?_
 rintro e w4 ⟨rfl,rfl⟩
 go_wp2_with fail
 refine H5.out.mono ?_
 rintro e w4 ⟨rfl,rfl⟩
 go_wp2_with fail
 refine H6.out.mono ?_
 rintro e w4 ⟨rfl,rfl⟩
 go_wp2_with fail
 refine H7.out.mono ?_
 rintro e w4 ⟨rfl,rfl⟩
 go_wp2_with fail
 refine H8.out.mono ?_
 rintro e w4 ⟨rfl,hb5⟩
 have HB5:=Lib.hid (HB3.out.trans (hb5.mono HB3.out.size))
 clear hb5
 go_wp2_with fail
 go_ret
 exact ⟨rfl,HB5.out⟩
end Go.Proofs.YtmpmfamiegpmgaaGreatDoor

namespace Go.Proofs.YtmpmfamiegpmgaaGreatDoor
open Go.RowKit
theorem unil_walk (file x:Int) (w:World) (h1:(Lit.int .i64 file).wf=true) (h2:(Lit.int .i64 x).wf=true) (hk:Kw w) :
  Calls Tryz.prog 14 #[.int .i64 file,.int .i64 x] w fun e w'=>e=.returned (.bool true)∧Below w.heap.size w w':=by
 have _:=h1
 have _:=h2
 exact unitNil_of file x w hk alive10_any
end Go.Proofs.YtmpmfamiegpmgaaGreatDoor
