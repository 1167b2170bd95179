/-
  Then: one edit for two lists of edits.
-/
import Derived.Test.YtficgilapbmmpaaApply
import Derived.Test.YtficgilapbmmpaaPart
namespace Go.Proofs.Ytficgilapbmmpaa
open Go.RowKit
set_option linter.unusedVariables false

/-- How many bytes stand ahead of all that edits touch. -/
def aheadN (xs : List Seg) (last : List UInt8) : Nat :=
  match xs with
  | [] => last.length
  | x :: _ => x.k.length

theorem take_ahead (xs : List Seg) (last : List UInt8) (h : Nat) (hh : h ≤ aheadN xs last) : (orig xs ++ last).take h = (made xs ++ last).take h := by
  cases xs with
  | nil => rfl
  | cons x r =>
    simp only [aheadN] at hh
    simp only [orig, made, List.append_assoc]
    rw [List.take_append_of_le_length hh, List.take_append_of_le_length hh]
theorem drop_behind (a b last : List UInt8) (t : Nat) (ht : t ≤ last.length) : (a ++ last).drop ((a ++ last).length - t) = (b ++ last).drop ((b ++ last).length - t) := by
  have h1 : ∀ a : List UInt8, (a ++ last).drop ((a ++ last).length - t) = last.drop (last.length - t) := fun a => by
    have : (a ++ last).length - t = a.length + (last.length - t) := by simp; omega
    rw [this, ← List.drop_drop, List.drop_left]
  rw [h1 a, h1 b]
theorem ahead_le (xs : List Seg) (last : List UInt8) (h t : Nat) (h0 : xs ≠ []) (hh : h ≤ aheadN xs last) (ht : t ≤ last.length) : h + t ≤ (orig xs ++ last).length ∧ h + t ≤ (made xs ++ last).length := by
  cases xs with
  | nil => exact absurd rfl h0
  | cons x r =>
    simp only [aheadN] at hh
    simp only [orig, made, List.length_append]
    omega

/-- What one edit for two lists is. -/
def oneSeg (S M : List UInt8) (h t : Nat) : Seg := ⟨S.take h, (S.drop h).take (S.length - t - h), (M.drop h).take (M.length - t - h)⟩
theorem one_orig (S M : List UInt8) (h t : Nat) (hs : h + t ≤ S.length) : S = orig [oneSeg S M h t] ++ S.drop (S.length - t) := by
  simp only [orig, oneSeg, List.append_nil]
  rw [List.append_assoc]
  have : S.drop (S.length - t) = (S.drop h).drop (S.length - t - h) := by rw [List.drop_drop]; congr 1; omega
  rw [this, List.take_append_drop, List.take_append_drop]
theorem one_made (S M : List UInt8) (h t : Nat) (hs : h + t ≤ S.length) (hm : h + t ≤ M.length) (h1 : S.take h = M.take h) (h2 : S.drop (S.length - t) = M.drop (M.length - t)) : made [oneSeg S M h t] ++ S.drop (S.length - t) = M := by
  rw [h2]
  simp only [made, oneSeg, List.append_nil]
  rw [List.append_assoc, h1]
  have : M.drop (M.length - t) = (M.drop h).drop (M.length - t - h) := by rw [List.drop_drop]; congr 1; omega
  rw [this, List.take_append_drop, List.take_append_drop]
theorem one_edits (S M : List UInt8) (h t : Nat) (hs : h + t ≤ S.length) : edits 0 [oneSeg S M h t] = [⟨(h : Int), ((S.length - t : Nat) : Int), ⟨((M.drop h).take (M.length - t - h)).toArray⟩⟩] := by
  have e1 : (S.take h).length = h := by simp; omega
  have e2 : ((S.drop h).take (S.length - t - h)).length = S.length - t - h := by simp; omega
  simp only [edits, oneSeg, e1, e2]
  congr 2 <;> omega
theorem one_ins (S M : List UInt8) (h t : Nat) : ins [oneSeg S M h t] ≤ M.length := by
  simp [ins, oneSeg]; omega

theorem ahead_any (s : ByteArray) (xs : List Seg) (last : List UInt8) (hs : s.data.toList = orig xs ++ last) (hsz : s.size ≤ 100000) (p : Option Addr) (n cap : Nat) (w : World) (h : EditsIn w p n cap (edits 0 xs)) (hm : n ≤ 60) :
    Calls Try.prog 40 #[.string s, .slice p n cap] w fun e w' => e = .returned (.int .i64 (aheadN xs last)) ∧ w = w' := by
  obtain ⟨hn, hr⟩ := h
  rw [edits_length] at hn
  cases xs with
  | nil =>
    simp at hn
    subst hn
    have : s.size = last.length := by
      have h1 : s.data.toList.length = s.size := by rw [Array.length_toList]; rfl
      rw [hs] at h1; simpa [orig] using h1.symm
    have HT := Lib.hid this
    clear hr hs this
    go_enter Try.func40, Try.ntmps40
    go_wp2
    go_ret
    exact ⟨ret_int (by rw [HT.out]; rfl), rfl⟩
  | cons x r =>
    rcases hr with h0 | ⟨b, off, rfl, hc, hb, hat⟩
    · rw [h0] at hn; simp at hn
    · have c0 := (hat 0 (by rw [edits_length]; simp)).1
      rw [edits_at (x :: r) 0 0 (by simp)] at c0
      have ek : 0 + (orig ((x :: r).take 0)).length + (x :: r)[0].k.length = x.k.length := by simp [orig]
      have c1 : w.cell? ⟨b, off, none⟩ = some (.int .i64 x.k.length) := by rw [← ek]; exact c0
      clear ek c0
      have hn1 : (n == 0) = false := by rw [hn]; simp
      have hn2 : 0 < n := by rw [hn]; simp
      have hn3 : ¬ n = 0 := by omega
      clear hat hn hs
      show Calls Try.prog 40 #[.string s, .slice (some ⟨b, off, none⟩) n cap] w fun e w' => e = .returned (.int .i64 x.k.length) ∧ w = w'
      generalize x.k.length = X at *
      go_enter Try.func40, Try.ntmps40
      go_wp2
      go_ret
      exact ⟨rfl, rfl⟩

theorem behind_any (s : ByteArray) (xs : List Seg) (last : List UInt8) (hs : s.data.toList = orig xs ++ last) (hsz : s.size ≤ 100000) (p : Option Addr) (n cap : Nat) (w : World) (h : EditsIn w p n cap (edits 0 xs)) (hm : n ≤ 60) :
    Calls Try.prog 41 #[.string s, .slice p n cap] w fun e w' => e = .returned (.int .i64 last.length) ∧ w = w' := by
  have hlen : s.size = (orig xs).length + last.length := by
    have h1 : s.data.toList.length = s.size := by rw [Array.length_toList]; rfl
    rw [hs] at h1; simpa using h1.symm
  obtain ⟨hn, hr⟩ := h
  rw [edits_length] at hn
  by_cases h0 : n = 0
  · subst h0
    have : xs = [] := List.length_eq_zero_iff.1 hn.symm
    subst this
    have HT := Lib.hid hlen
    clear hr hs hlen hn
    go_enter Try.func41, Try.ntmps41
    go_wp2
    go_ret
    exact ⟨ret_int (by rw [HT.out]; simp [orig]), rfl⟩
  · rcases hr with h0' | ⟨b, off, rfl, hc, hb, hat⟩
    · omega
    · have c0 := (hat (n - 1) (by rw [edits_length]; omega)).2.1
      rw [edits_at xs 0 (n - 1) (by omega)] at c0
      have ht := orig_take_succ xs (n - 1) (by omega)
      rw [show n - 1 + 1 = n from by omega, List.take_of_length_le (by omega)] at ht
      have he : 0 + (orig (xs.take (n - 1))).length + xs[n - 1].k.length + xs[n - 1].d.length = (orig xs).length := by rw [ht]; simp; omega
      simp only [he] at c0
      have hX : (s.size : Int) - (orig xs).length = last.length := by omega
      have HX := Lib.hid hX
      have hol : (orig xs).length ≤ 100000 := by omega
      obtain ⟨m, rfl⟩ : ∃ m, n = m + 1 := ⟨n - 1, by omega⟩
      simp only [Nat.add_sub_cancel] at c0
      clear hat hn hs ht he hX hlen h0
      generalize (orig xs).length = O at *
      go_enter Try.func41, Try.ntmps41
      go_wp2
      go_ret
      exact ⟨ret_int HX.out, rfl⟩
end Go.Proofs.Ytficgilapbmmpaa
