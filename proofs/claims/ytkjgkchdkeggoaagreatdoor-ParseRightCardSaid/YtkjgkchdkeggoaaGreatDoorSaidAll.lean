/-
  Every part is read as the plain parser says.
-/
import Derived.Test.YtkjgkchdkeggoaaGreatDoorDecC
import Derived.Test.YtkjgkchdkeggoaaGreatDoorInfix
import Derived.Test.YtkjgkchdkeggoaaGreatDoorExpC
import Derived.Test.YtkjgkchdkeggoaaGreatDoorPatC
import Derived.Test.YtkjgkchdkeggoaaGreatDoorSigC
import Derived.Test.YtkjgkchdkeggoaaGreatDoorStrC
namespace Go.Proofs.YtkjgkchdkeggoaaGreatDoor
open Go.RowKit
set_option maxRecDepth 20000
set_option linter.unusedVariables false
set_option linter.unusedSimpArgs false

theorem said_all (S : Src) : ∀ (f : Nat), f ≤ 1000000000 → ∀ d, Said S (parts S f) d := by
  intro f
  induction f with
  | zero => exact fun _ d => ⟨fun k w h hnd => absurd rfl hnd, fun k w h hnd => absurd rfl hnd, fun k w h hnd => absurd rfl hnd, fun k w h hnd => absurd rfl hnd, fun k w h hnd => absurd rfl hnd, fun a k w h _ hnd => absurd rfl hnd⟩
  | succ f ih =>
    intro hf d
    have hF : f ≤ 1000000000 := by omega
    have hs := ih hF (d + 1)
    refine ⟨fun k w h hnd => ?_, fun k w h hnd => ?_, fun k w h hnd => ?_, fun k w h hnd => ?_, fun k w h hnd => ?_, fun a k w h hdc hnd => ?_⟩
    · exact ty_any S f (parts S f) d hs hF k w h hnd
    · exact exp_shell S (expO S f (parts S f) (d + 1) k) d k w h (fun hd bx w' hr hx hg ho => expC_any S f (parts S f) (d + 1) hs hF bx k w' hr hx hg (fun k w' hr hnd => infix_any S f (parts S f) (d + 1) hs hF k w' hr hnd) ho) hnd
    · exact pat_shell S (patO S f (parts S f) (d + 1) k) d k w h (fun hd bx w' hr hx hg ho => patC_any S f (parts S f) (d + 1) hs hF bx k w' hr hx hg ho) hnd
    · exact sig_shell S (sigO S f (parts S f) (d + 1) k) d k w h (fun hd bx w' hr hx hg ho => sigC_any S f (parts S f) (d + 1) hs hF bx k w' hr hx hg ho) hnd
    · exact str_shell S (strO S f (parts S f) (d + 1) k) d k w h (fun hd bx w' hr hx hg ho => strC_any S f (parts S f) (d + 1) hs hF bx k w' hr hx hg ho) hnd
    · exact dec_shell S (decO S f (parts S f) (d + 1) a k) a d k w h (fun hd bx byy w' hr hx hg hy hgy ho => decC_any S f (parts S f) (d + 1) hs hF bx byy a k w' hr hx hg hy hgy hdc ho) hnd
theorem file_read (S : Src) (F : Nat) (hF : F ≤ 1000000000) (n : Nat) (w : World) (h : Rd w S n 0) (hnd : fileO S F n ≠ .dry) :
    Calls Tryz.prog 23 #[.pointer (some ⟨S.g, 0, none⟩)] w fun e w' => Ends S 0 w (fileO S F n) (RB w) e w' :=
  file_any S F n w h (fun w' hr ho => decs_any S F (parts S F) 0 (said_all S F hF 0) hF 2 n w' hr ho) hnd
end Go.Proofs.YtkjgkchdkeggoaaGreatDoor
