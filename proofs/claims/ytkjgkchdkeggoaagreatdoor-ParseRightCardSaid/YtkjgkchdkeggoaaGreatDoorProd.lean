/-
  The reader's product.
-/
import Derived.Test.YtkjgkchdkeggoaaGreatDoorTy
namespace Go.Proofs.YtkjgkchdkeggoaaGreatDoor
open Go.RowKit
set_option maxRecDepth 20000
set_option linter.unusedVariables false
set_option linter.unusedSimpArgs false

theorem oneOr_ne {l : List Pb} (h : ∀ b, l ≠ [b]) (k : Int) (f t : Nat) (ns : List Nat) : oneOr l k f t ns = node k f t ns l := by
  match l, h with
  | [], _ => rfl
  | [b], h => exact absurd rfl (h b)
  | a :: b :: r, _ => rfl
theorem cf76 (args : Array Value) (w : World) : Sem.run Tryz.prog (callFunc 76 args) w = .ok (.enter 76 args) w := cf_enter Tryz.func76 (by kernel_rfl) (by kernel_rfl) args w
set_option maxHeartbeats 4000000 in
theorem product_any (S : Src) (F : Nat) (rec : Nt → Nat → Nat → Out Pb) (d : Nat) (hF : F ≤ 1000000000)
    (hA : ∀ k w, Rd w S k d → appliedO S F rec d k ≠ .dry → Calls Tryz.prog 76 #[.pointer (some ⟨S.g, 0, none⟩)] w fun e w' => Ends S d w (appliedO S F rec d k) (RB w) e w')
    (n : Nat) (w : World) (h : Rd w S n d) (hdry : productO S F rec d n ≠ .dry) :
    Calls Tryz.prog 45 #[.pointer (some ⟨S.g, 0, none⟩)] w fun e w' => Ends S d w (productO S F rec d n) (RB w) e w' := by
  have hgl := h.lt
  have hgwl := h.row
  have hb1 : Below w.heap.size w (w.alloc boxZ) := (Below.refl w.heap.size w).alloc (Nat.le_refl _) _
  have hr1 := h.step hb1
  have q2 := hr1.c2
  unfold productO at hdry ⊢
  have HW := Lib.hid (rrow_any 76 #[] cf76 S F n d ⟨#[42]⟩ (appliedO S F rec d) _ hr1 (by simp) hF (fun k w' hr _ hnd => hA k w' hr hnd) (bind_dry hdry))
  have HDRY := Lib.hid hdry
  clear hr1 hb1 h hA hdry
  go_enter Tryz.func45, Tryz.ntmps45
  go_wp2_with fail
  refine HW.out.mono ?_
  rintro e w4 (⟨l, n4, v, hpo, rfl, ⟨ys, hown, hK, hmap⟩, hr4, hg4⟩ | ⟨ch, ho, rfl, hg4⟩)
  · obtain ⟨kp, kc, rfl⟩ := own_form hown
    have HG5 := Lib.hid hg4
    have HO5 := Lib.hid (own_base (base' := w.heap.size + 1) hown (by simp))
    have HK5 : Hid (Kids (w.heap.size + 1) (.slice kp ys.length kc) w4 ys) := Lib.hid (fun y hy => ⟨(hK y hy).1, (hK y hy).2.mono (fun q hq => ⟨by have := hq.1; simpa using this, hq.2⟩) _⟩)
    have HPO := Lib.hid hpo
    have HMAP := Lib.hid hmap
    have HR5 := Lib.hid hr4
    clear hpo hown hK hmap hr4 hg4
    by_cases h1 : ys.length = 1
    · obtain ⟨y, rfl⟩ := List.length_eq_one_iff.1 h1
      obtain ⟨yh, yks⟩ := y
      obtain ⟨yk, ym, yf, yt, ynp, ynn, ync, yns, ykp, ykn, ykc⟩ := yh
      obtain ⟨gk, ck, hvk, _, hgk, _, _⟩ := own_pos HO5.out (by simp)
      injection hvk with hk1 hk2 hk3
      subst hk1 hk3
      have cell := fun j u hu => own_cell HO5.out j u hu
      have e0 := cell 0 _ rfl
      have e1 := cell 1 _ rfl
      have e2 := cell 2 _ rfl
      have e3 := cell 3 _ rfl
      have e4 := cell 4 _ rfl
      have e5 := cell 5 _ rfl
      simp only [Br.h] at e0 e1 e2 e3 e4 e5
      obtain ⟨hyl, hyo⟩ := HK5.out _ (List.mem_singleton.2 rfl)
      have FIN := Lib.hid (fin_box (o := (rowO S F [42] (appliedO S F rec d) n).bind fun l n1 => Out.ok (oneOr l 44 n n1 []) n1) _ yk ym yf yt ynp ynn ync yns ykp ykn ykc yks HR5.out HG5.out hgl hgwl (by rw [HPO.out, bind_ok, ← HMAP.out]; rfl) hyl (hyo.mono (fun q hq => hq.1) _) rfl)
      clear cell hyl hyo h1
      have c0 := FIN.out.c0
      have c1 := FIN.out.c1
      have c2 := FIN.out.c2
      have c3 := FIN.out.c3
      have c4 := FIN.out.c4
      have c5 := FIN.out.c5
      have f0 := FIN.out.fz 0
      have f1 := FIN.out.fz 1
      have f2 := FIN.out.fz 2
      have f3 := FIN.out.fz 3
      have f4 := FIN.out.fz 4
      have f5 := FIN.out.fz 5
      go_wp2_with fail
      obtain ⟨_, _, _, _, _, _, _, d0, d1, d2, d3, d4, d5, hfin⟩ := FIN.out
      refine bodyPost_ret (by simp [results, Tryz.results45, go_sem, d0, d1, d2, d3, d4, d5, Result.andThen]; try rfl) rfl ?_
      exact hfin
    · have hln : ∀ b, l ≠ [b] := fun b e => h1 (by have := congrArg List.length (HMAP.out.trans e); simpa using this)
      have HTOT : Hid (((rowO S F [42] (appliedO S F rec d) n).bind fun l n1 => Out.ok (oneOr l 44 n n1 []) n1) = .ok (node 44 n n4 [] l) n4) := Lib.hid (by rw [HPO.out, bind_ok, oneOr_ne hln])
      have hgk : ((ys.length : Int) == 1) = false := by rw [beq_eq_false_iff_ne]; omega
      have h1i : ¬ ((ys.length : Nat) : Int) = 1 := by omega
      have HB := Lib.hid (rbranch_any S n4 d 44 n none 0 0 kp ys.length kc w4 HR5.out)
      clear hln
      obtain ⟨nl, hnl⟩ : ∃ nl, nl = ys.length := ⟨_, rfl⟩
      have HNL := Lib.hid hnl
      rw [← hnl] at HO5 HK5 h1 h1i hgk HB ⊢
      clear hnl
      go_wp2_with fail
      refine HB.out.mono ?_
      rintro e w7 ⟨rfl, hb7⟩
      have HL := node_lies (w0 := w) (w1 := w) (N := w.heap.size + 1) 44 0 n n4 (names_none (w := w7)) (by rw [← HNL.out]; exact ownsRow_below HO5.out hb7) (HK5.out.step hb7)
      have FIN := Lib.hid (fin_box (o := (rowO S F [42] (appliedO S F rec d) n).bind fun l n1 => Out.ok (oneOr l 44 n n1 []) n1) (node 44 n n4 [] l) 44 0 n n4 none 0 0 _ kp nl kc ys (HR5.out.step hb7) (grown_trans HG5.out (grown_below hb7 _)) hgl hgwl HTOT.out HL.1 HL.2 (by rw [← HMAP.out]; simp [Br.pb, pbs_map, node]))
      clear HL hb7
      have c0 := FIN.out.c0
      have c1 := FIN.out.c1
      have c2 := FIN.out.c2
      have c3 := FIN.out.c3
      have c4 := FIN.out.c4
      have c5 := FIN.out.c5
      have f0 := FIN.out.fz 0
      have f1 := FIN.out.fz 1
      have f2 := FIN.out.fz 2
      have f3 := FIN.out.fz 3
      have f4 := FIN.out.fz 4
      have f5 := FIN.out.fz 5
      go_wp2_with fail
      obtain ⟨_, _, _, _, _, _, _, d0, d1, d2, d3, d4, d5, hfin⟩ := FIN.out
      refine bodyPost_ret (by simp [results, Tryz.results45, go_sem, d0, d1, d2, d3, d4, d5, Result.andThen]; try rfl) rfl ?_
      exact hfin
  · exact ⟨rfl, Or.inr ⟨ch, pan_bind ho, rfl, grown_trans (grown_below ((Below.refl _ _).alloc (Nat.le_refl _) _) _) hg4⟩⟩
end Go.Proofs.YtkjgkchdkeggoaaGreatDoor
