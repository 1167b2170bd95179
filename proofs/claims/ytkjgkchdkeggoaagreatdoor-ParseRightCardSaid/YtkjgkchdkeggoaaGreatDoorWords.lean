/-
  Keywords and marks: the rows, and which texts are on them.
-/
import Derived.Test.YtkjgkchdkeggoaaGreatDoorBase
import Derived.Lib.Strings
import Derived.Laws.Rows
namespace Go.Proofs.YtkjgkchdkeggoaaGreatDoor
open Go.RowKit
set_option linter.unusedVariables false

def kwT : List ByteArray := [⟨#[97, 110, 100]⟩, ⟨#[97, 115]⟩, ⟨#[99, 97, 115, 101]⟩, ⟨#[100, 97, 116, 97, 116, 121, 112, 101]⟩, ⟨#[101, 108, 115, 101]⟩, ⟨#[101, 110, 100]⟩, ⟨#[102, 110]⟩, ⟨#[102, 117, 110]⟩, ⟨#[102, 117, 110, 99, 116, 111, 114]⟩, ⟨#[105, 102]⟩, ⟨#[105, 110]⟩, ⟨#[105, 110, 99, 108, 117, 100, 101]⟩, ⟨#[108, 101, 116]⟩, ⟨#[108, 111, 99, 97, 108]⟩, ⟨#[111, 102]⟩, ⟨#[111, 112]⟩, ⟨#[111, 112, 101, 110]⟩, ⟨#[115, 105, 103]⟩, ⟨#[115, 105, 103, 110, 97, 116, 117, 114, 101]⟩, ⟨#[115, 116, 114, 117, 99, 116]⟩, ⟨#[115, 116, 114, 117, 99, 116, 117, 114, 101]⟩, ⟨#[116, 104, 101, 110]⟩, ⟨#[116, 121, 112, 101]⟩, ⟨#[118, 97, 108]⟩, ⟨#[119, 104, 101, 114, 101]⟩]
theorem kwT_len : kwT.length = 25 := rfl
/-- A text is on a row. -/
def inB (l : List ByteArray) (s : ByteArray) : Bool := l.any fun t => t.toList == s.toList
theorem inB_at {l : List ByteArray} {s : ByteArray} (k : Nat) (h : k < l.length) (he : ((l[k]'h).toList == s.toList) = true) : inB l s = true := by
  unfold inB; rw [List.any_eq_true]; exact ⟨_, List.getElem_mem h, he⟩
theorem inB_none {l : List ByteArray} {s : ByteArray} (h : ∀ j, (hj : j < l.length) → ((l[j]'hj).toList == s.toList) = false) : inB l s = false := by
  unfold inB; rw [List.any_eq_false]; intro x hx
  obtain ⟨j, hj, e⟩ := List.getElem_of_mem hx
  rw [← e, h j hj]; simp
def kwB (s : ByteArray) : Bool := inB kwT s
def mkT : List ByteArray := [⟨#[40]⟩, ⟨#[41]⟩, ⟨#[44]⟩, ⟨#[46]⟩, ⟨#[59]⟩, ⟨#[95]⟩, ⟨#[61]⟩, ⟨#[61, 62]⟩, ⟨#[124]⟩, ⟨#[58]⟩, ⟨#[58, 62]⟩, ⟨#[45, 62]⟩]
def mkB (s : ByteArray) : Bool := inB mkT s
def kwV : Array Value := (kwT.map Value.string).toArray
/-- The array of keywords lies where it was laid. -/
def Kw (w : World) : Prop := (∃ t fr, w.heap[0]? = some (.cells kwV t fr)) ∧ At w 0 0 kwT
theorem Kw.of {w : World} {t : TypeId} {fr : Nat × Nat} (h : w.heap[0]? = some (.cells kwV t fr)) : Kw w := by
  refine ⟨⟨t, fr, h⟩, fun i hi => ?_⟩
  rw [Nat.zero_add, cell_of_row w 0 i kwV t fr h]
  unfold kwV
  simp [hi]
theorem Kw.pos {w : World} (h : Kw w) : 0 < w.heap.size := by
  obtain ⟨⟨t, fr, h⟩, _⟩ := h
  exact (Array.getElem?_eq_some_iff.1 h).1
theorem Kw.step {w w1 : World} (h : Kw w) (hb : Below w.heap.size w w1) : Kw w1 := by
  have hp := h.pos
  obtain ⟨⟨t, fr, h⟩, _⟩ := h
  exact Kw.of (t := t) (fr := fr) ((hb.block 0 hp).trans h)

set_option maxHeartbeats 400000 in
theorem keyword_any (s : ByteArray) (w : World) (hk : Kw w) : Calls Tryz.prog 128 #[.string s] w fun e w' => e = .returned (.bool (kwB s)) ∧ w = w' := by
  have HK := Lib.hid hk.2
  clear hk
  go_enter Tryz.func128, Tryz.ntmps128
  go_wp2
  go_loop [4] (fun i => ∃ k : Nat, k ≤ 25 ∧ i = .int .i64 k ∧ Hid (∀ j, j < k → (hj : j < 25) → ((kwT[j]'hj).toList == s.toList) = false)) (fun i => 25 - (intOf i).toNat)
  case atStart => exact ⟨0, by omega, rfl, Lib.hid (fun j h => by omega)⟩
  case round =>
    obtain ⟨k, hk, rfl, HJ⟩ := hrel
    by_cases hlt : k < 25
    · have hc : w.cell? ⟨0, k, none⟩ = some (.string (kwT[k]'hlt)) := by have := HK.out k hlt; rw [Nat.zero_add] at this; exact this
      by_cases he : ((kwT[k]'hlt).toList == s.toList) = true
      · have HB := Lib.hid (inB_at (l := kwT) k hlt he)
        generalize kwT[k]'hlt = t at hc he
        go_wp2
        go_ret
        exact ⟨ret_bool HB.out.symm, rfl⟩
      · have he : ((kwT[k]'hlt).toList == s.toList) = false := by simpa using he
        have HE := Lib.hid he
        generalize kwT[k]'hlt = t at hc he
        go_wp2
        go_round
        case rel =>
          refine ⟨k + 1, by omega, by go_num, Lib.hid fun j hj hj2 => ?_⟩
          by_cases e : j = k
          · subst e; exact HE.out
          · exact HJ.out j (by omega) hj2
        case measure => simp [intOf]; omega
    · have HB := Lib.hid (inB_none (l := kwT) (s := s) (fun j hj => HJ.out j (by have : kwT.length = 25 := rfl; omega) hj))
      go_wp2
      go_ret
      exact ⟨ret_bool (by unfold kwB; exact HB.out.symm), rfl⟩
theorem mk_iff (s : ByteArray) : mkB s = ((s.toList == [40]) || (s.toList == [41]) || (s.toList == [44]) || (s.toList == [46]) || (s.toList == [59]) || (s.toList == [95]) || (s.toList == [61]) || (s.toList == [61, 62]) || (s.toList == [124]) || (s.toList == [58]) || (s.toList == [58, 62]) || (s.toList == [45, 62])) := by
  unfold mkB inB mkT
  simp only [List.any_cons, List.any_nil, Bool.or_false]
  have hh : ∀ (a : ByteArray) (l : List UInt8), a.toList = l → (a.toList == s.toList) = (s.toList == l) := fun a l h => by rw [h]; exact Bool.beq_comm
  rw [hh ⟨#[40]⟩ [40] (by simp [Lib.toList_data])]
  rw [hh ⟨#[41]⟩ [41] (by simp [Lib.toList_data])]
  rw [hh ⟨#[44]⟩ [44] (by simp [Lib.toList_data])]
  rw [hh ⟨#[46]⟩ [46] (by simp [Lib.toList_data])]
  rw [hh ⟨#[59]⟩ [59] (by simp [Lib.toList_data])]
  rw [hh ⟨#[95]⟩ [95] (by simp [Lib.toList_data])]
  rw [hh ⟨#[61]⟩ [61] (by simp [Lib.toList_data])]
  rw [hh ⟨#[61, 62]⟩ [61, 62] (by simp [Lib.toList_data])]
  rw [hh ⟨#[124]⟩ [124] (by simp [Lib.toList_data])]
  rw [hh ⟨#[58]⟩ [58] (by simp [Lib.toList_data])]
  rw [hh ⟨#[58, 62]⟩ [58, 62] (by simp [Lib.toList_data])]
  rw [hh ⟨#[45, 62]⟩ [45, 62] (by simp [Lib.toList_data])]
  simp only [Bool.or_assoc]
theorem mark_any (s : ByteArray) (w : World) : Calls Tryz.prog 132 #[.string s] w fun e w' => e = .returned (.bool (mkB s)) ∧ w = w' := by
  have HM := Lib.hid (mk_iff s)
  cases e0 : (s.toList == [40])
  case true =>
    go_enter Tryz.func132, Tryz.ntmps132
    go_wp2
    go_ret
    exact ⟨ret_bool (by simp [HM.out, *]), rfl⟩
  cases e1 : (s.toList == [41])
  case true =>
    go_enter Tryz.func132, Tryz.ntmps132
    go_wp2
    go_ret
    exact ⟨ret_bool (by simp [HM.out, *]), rfl⟩
  cases e2 : (s.toList == [44])
  case true =>
    go_enter Tryz.func132, Tryz.ntmps132
    go_wp2
    go_ret
    exact ⟨ret_bool (by simp [HM.out, *]), rfl⟩
  cases e3 : (s.toList == [46])
  case true =>
    go_enter Tryz.func132, Tryz.ntmps132
    go_wp2
    go_ret
    exact ⟨ret_bool (by simp [HM.out, *]), rfl⟩
  cases e4 : (s.toList == [59])
  case true =>
    go_enter Tryz.func132, Tryz.ntmps132
    go_wp2
    go_ret
    exact ⟨ret_bool (by simp [HM.out, *]), rfl⟩
  cases e5 : (s.toList == [95])
  case true =>
    go_enter Tryz.func132, Tryz.ntmps132
    go_wp2
    go_ret
    exact ⟨ret_bool (by simp [HM.out, *]), rfl⟩
  cases e6 : (s.toList == [61])
  case true =>
    go_enter Tryz.func132, Tryz.ntmps132
    go_wp2
    go_ret
    exact ⟨ret_bool (by simp [HM.out, *]), rfl⟩
  cases e7 : (s.toList == [61, 62])
  case true =>
    go_enter Tryz.func132, Tryz.ntmps132
    go_wp2
    go_ret
    exact ⟨ret_bool (by simp [HM.out, *]), rfl⟩
  cases e8 : (s.toList == [124])
  case true =>
    go_enter Tryz.func132, Tryz.ntmps132
    go_wp2
    go_ret
    exact ⟨ret_bool (by simp [HM.out, *]), rfl⟩
  cases e9 : (s.toList == [58])
  case true =>
    go_enter Tryz.func132, Tryz.ntmps132
    go_wp2
    go_ret
    exact ⟨ret_bool (by simp [HM.out, *]), rfl⟩
  cases e10 : (s.toList == [58, 62])
  case true =>
    go_enter Tryz.func132, Tryz.ntmps132
    go_wp2
    go_ret
    exact ⟨ret_bool (by simp [HM.out, *]), rfl⟩
  cases e11 : (s.toList == [45, 62])
  case true =>
    go_enter Tryz.func132, Tryz.ntmps132
    go_wp2
    go_ret
    exact ⟨ret_bool (by simp [HM.out, *]), rfl⟩
  go_enter Tryz.func132, Tryz.ntmps132
  go_wp2
  go_ret
  exact ⟨ret_bool (by simp [HM.out, *]), rfl⟩
end Go.Proofs.YtkjgkchdkeggoaaGreatDoor
