/-
  How many bits a word has: the plain facts.
-/
import Derived.Test.YtlfnefgcndhomaaSetW
namespace Go.Proofs.Ytlfnefgcndhomaa
set_option linter.unusedVariables false

/-- How many of the lowest k bits are there. -/
def popB : Nat → Nat → Nat
  | 0, _ => 0
  | k + 1, x => x % 2 + popB k (x / 2)
theorem popB_add : ∀ (a b x : Nat), popB (a + b) x = popB a x + popB b (x / 2 ^ a)
  | 0, b, x => by simp [popB]
  | a + 1, b, x => by
    rw [show a + 1 + b = (a + b) + 1 by omega]
    simp only [popB]
    rw [popB_add a b (x / 2), Nat.div_div_eq_div_mul, Nat.pow_succ, Nat.mul_comm 2, Nat.add_assoc]
theorem popB_mod : ∀ (a x y : Nat), popB a (x % 2 ^ a + 2 ^ a * y) = popB a x
  | 0, x, y => rfl
  | a + 1, x, y => by
    simp only [popB]
    have h1 : (x % 2 ^ (a + 1) + 2 ^ (a + 1) * y) % 2 = x % 2 := by
      rw [Nat.pow_succ, Nat.mul_comm (2 ^ a) 2, Nat.mul_assoc]
      rw [Nat.add_mul_mod_self_left, Nat.mod_mul_right_mod]
    have h2 : (x % 2 ^ (a + 1) + 2 ^ (a + 1) * y) / 2 = (x / 2) % 2 ^ a + 2 ^ a * y := by
      rw [Nat.pow_succ, Nat.mul_comm (2 ^ a) 2, Nat.mul_assoc, Nat.add_mul_div_left _ _ (by omega), Nat.mod_mul_right_div_self]
    rw [h1, h2, popB_mod a (x / 2) y]
theorem popB_low (a x : Nat) : popB a (x % 2 ^ a) = popB a x := by
  have := popB_mod a x 0
  simpa using this
theorem popB_le : ∀ (a x : Nat), popB a x ≤ a
  | 0, _ => by simp [popB]
  | a + 1, x => by have := popB_le a (x / 2); simp only [popB]; omega
theorem popB_top (k x : Nat) : popB (k + 1) x = popB k x + x / 2 ^ k % 2 := by
  rw [popB_add k 1 x]; simp [popB]

/-- A word's bytes, the lowest first, put together. -/
def joinB : List Nat → Nat
  | [] => 0
  | c :: r => c + 256 * joinB r
def Bytes8 (l : List Nat) : Prop := ∀ c ∈ l, c < 256
theorem joinB_pop : ∀ (l : List Nat), Bytes8 l → popB (8 * l.length) (joinB l) = (l.map (popB 8)).sum
  | [], _ => rfl
  | c :: r, h => by
    have hc := h c (by simp)
    rw [List.length_cons, show 8 * (r.length + 1) = 8 + 8 * r.length by omega, popB_add]
    simp only [joinB, List.map_cons, List.sum_cons]
    have h1 : popB 8 (c + 256 * joinB r) = popB 8 c := by
      rw [← popB_low 8 (c + 256 * joinB r), show (2 : Nat) ^ 8 = 256 from rfl, show (c + 256 * joinB r) % 256 = c by omega]
    have h2 : (c + 256 * joinB r) / 2 ^ 8 = joinB r := by rw [show (2 : Nat) ^ 8 = 256 from rfl]; omega
    rw [h1, h2, joinB_pop r (fun x hx => h x (by simp [hx]))]
/-- And, byte by byte. -/
theorem and_bytes (a b c d : Nat) (hb : b < 256) (hd : d < 256) : (b + 256 * a) &&& (d + 256 * c) = (b &&& d) + 256 * (a &&& c) := by
  have e : ∀ x y, y + 256 * x = 2 ^ 8 * x + y := fun x y => by rw [show (2 : Nat) ^ 8 = 256 from rfl]; omega
  have hbd : b &&& d < 2 ^ 8 := Nat.lt_of_le_of_lt Nat.and_le_left hb
  rw [e, e, e]
  refine Nat.eq_of_testBit_eq fun j => ?_
  rw [Nat.testBit_and, Nat.testBit_two_pow_mul_add a hb, Nat.testBit_two_pow_mul_add c hd, Nat.testBit_two_pow_mul_add (a &&& c) hbd]
  split <;> rw [Nat.testBit_and]
/-- A mask of equal bytes. -/
def maskB (m : Nat) : Nat → Nat
  | 0 => 0
  | n + 1 => m + 256 * maskB m n
theorem and_mask (m : Nat) (hm : m < 256) : ∀ l : List Nat, Bytes8 l → joinB l &&& maskB m l.length = joinB (l.map fun c => c &&& m)
  | [], _ => by simp [joinB, maskB]
  | c :: r, h => by
    simp only [joinB, maskB, List.length_cons, List.map_cons]
    rw [and_bytes _ _ _ _ (h c (by simp)) hm, and_mask m hm r (fun x hx => h x (by simp [hx]))]
/-- A word shifted by s bits (at most 8), then masked: the mask's lowest bits alone are looked at. -/
theorem shift_mask (s m : Nat) (hm : m < 256) (hs : ∀ c t, c < 256 → t < 2 ^ s → (c / 2 ^ s + t * 2 ^ (8 - s)) % 256 &&& m = (c / 2 ^ s) &&& m) (h8 : s ≤ 8) : ∀ l : List Nat, Bytes8 l → joinB l / 2 ^ s &&& maskB m l.length = joinB (l.map fun c => (c / 2 ^ s) &&& m)
  | [], _ => by simp [joinB, maskB]
  | c :: r, h => by
    have hc := h c (by simp)
    have ih := shift_mask s m hm hs h8 r (fun x hx => h x (by simp [hx]))
    simp only [joinB, maskB, List.length_cons, List.map_cons]
    have hp : 2 ^ (8 - s) * 2 ^ s = 256 := by rw [← Nat.pow_add, show 8 - s + s = 8 by omega]
    have hd : (c + 256 * joinB r) / 2 ^ s = c / 2 ^ s + 2 ^ (8 - s) * joinB r := by
      rw [← hp, Nat.mul_comm (2 ^ (8 - s)) (2 ^ s), Nat.mul_assoc, Nat.add_mul_div_left _ _ (Nat.pow_pos (by omega))]
    have hj : joinB r = joinB r % 2 ^ s + 2 ^ s * (joinB r / 2 ^ s) := by rw [Nat.add_comm]; exact (Nat.div_add_mod _ _).symm
    have hsplit : c / 2 ^ s + 2 ^ (8 - s) * joinB r = (c / 2 ^ s + (joinB r % 2 ^ s) * 2 ^ (8 - s)) + 256 * (joinB r / 2 ^ s) := by
      conv => lhs; rw [hj]
      rw [Nat.mul_add, ← Nat.mul_assoc, hp, Nat.mul_comm (2 ^ (8 - s)) (joinB r % 2 ^ s), Nat.add_assoc]
    have hlow : c / 2 ^ s + (joinB r % 2 ^ s) * 2 ^ (8 - s) < 256 := by
      have h1 : c / 2 ^ s < 2 ^ (8 - s) := by
        rw [Nat.div_lt_iff_lt_mul (Nat.pow_pos (by omega)), hp]; exact hc
      have h2 : joinB r % 2 ^ s + 1 ≤ 2 ^ s := Nat.mod_lt _ (Nat.pow_pos (by omega))
      have h3 : (joinB r % 2 ^ s + 1) * 2 ^ (8 - s) ≤ 2 ^ s * 2 ^ (8 - s) := Nat.mul_le_mul_right _ h2
      rw [Nat.mul_comm (2 ^ s), hp, Nat.add_mul] at h3
      omega
    rw [hd, hsplit, and_bytes _ _ _ _ hlow hm, ih]
    have := hs c (joinB r % 2 ^ s) hc (Nat.mod_lt _ (Nat.pow_pos (by omega)))
    rw [Nat.mod_eq_of_lt hlow] at this
    rw [this]
theorem joinB_add : ∀ (l : List Nat) (f g : Nat → Nat), joinB (l.map f) + joinB (l.map g) = joinB (l.map fun c => f c + g c)
  | [], _, _ => rfl
  | c :: r, f, g => by
    have := joinB_add r f g
    simp only [List.map_cons, joinB]
    omega

/-- A word's n lowest bytes. -/
def bytesN : Nat → Nat → List Nat
  | 0, _ => []
  | n + 1, w => w % 256 :: bytesN n (w / 256)
theorem bytesN_length : ∀ n w, (bytesN n w).length = n
  | 0, _ => rfl
  | n + 1, w => by simp [bytesN, bytesN_length n]
theorem bytesN_lt : ∀ n w, Bytes8 (bytesN n w)
  | 0, _, c, h => by simp [bytesN] at h
  | n + 1, w, c, h => by
    rcases List.mem_cons.1 h with rfl | h
    · omega
    · exact bytesN_lt n _ c h
theorem bytesN_join : ∀ n w, w < 256 ^ n → joinB (bytesN n w) = w
  | 0, w, h => by simp at h; subst h; rfl
  | n + 1, w, h => by
    simp only [bytesN, joinB]
    rw [bytesN_join n (w / 256) (by rw [Nat.pow_succ] at h; omega)]
    omega

def g1 (c : Nat) : Nat := ((c / 2 ^ 1) &&& 85) + (c &&& 85)
def g2 (c : Nat) : Nat := ((c / 2 ^ 2) &&& 51) + (c &&& 51)
def g3 (c : Nat) : Nat := c / 16 + c % 16
theorem g_all : ∀ c, c < 256 → g1 c < 256 ∧ g2 (g1 c) < 256 ∧ g2 (g1 c) % 16 ≤ 4 ∧ g2 (g1 c) / 16 ≤ 4 ∧ g3 (g2 (g1 c)) = popB 8 c := by decide +kernel
theorem sh1 : ∀ c t, c < 256 → t < 2 ^ 1 → (c / 2 ^ 1 + t * 2 ^ (8 - 1)) % 256 &&& 85 = (c / 2 ^ 1) &&& 85 := by
  have : ∀ c, c < 256 → ∀ t, t < 2 ^ 1 → (c / 2 ^ 1 + t * 2 ^ (8 - 1)) % 256 &&& 85 = (c / 2 ^ 1) &&& 85 := by decide +kernel
  exact fun c t h1 h2 => this c h1 t h2
theorem sh2 : ∀ c t, c < 256 → t < 2 ^ 2 → (c / 2 ^ 2 + t * 2 ^ (8 - 2)) % 256 &&& 51 = (c / 2 ^ 2) &&& 51 := by
  have : ∀ c, c < 256 → ∀ t, t < 2 ^ 2 → (c / 2 ^ 2 + t * 2 ^ (8 - 2)) % 256 &&& 51 = (c / 2 ^ 2) &&& 51 := by decide +kernel
  exact fun c t h1 h2 => this c h1 t h2
/-- Nibbles of at most four. -/
def Nib (l : List Nat) : Prop := ∀ c ∈ l, c < 256 ∧ c % 16 ≤ 4 ∧ c / 16 ≤ 4
theorem joinB_low (l : List Nat) (h : Nib l) : joinB l % 16 ≤ 4 := by
  cases l with
  | nil => simp [joinB]
  | cons c r => have := h c (by simp); simp only [joinB]; omega
theorem nib_mask : ∀ l : List Nat, Nib l → (joinB l / 16 + joinB l) &&& maskB 15 l.length = joinB (l.map g3)
  | [], _ => by simp [joinB, maskB]
  | c :: r, h => by
    obtain ⟨h1, h2, h3⟩ := h c (by simp)
    have hr : Nib r := fun x hx => h x (by simp [hx])
    have ih := nib_mask r hr
    have hl := joinB_low r hr
    simp only [joinB, maskB, List.length_cons, List.map_cons]
    generalize joinB r = R at *
    have e : (c + 256 * R) / 16 + (c + 256 * R) = (c / 16 + c + 16 * (R % 16)) + 256 * (R / 16 + R) := by omega
    rw [e, and_bytes _ _ _ _ (by omega) (by omega), ih]
    congr 1
    have : (c / 16 + c + 16 * (R % 16)) &&& 15 = (c / 16 + c + 16 * (R % 16)) % 16 := Nat.and_two_pow_sub_one_eq_mod _ 4
    rw [this]
    unfold g3
    omega

def m0 : Nat := 6148914691236517205
def m1 : Nat := 3689348814741910323
def m2 : Nat := 1085102592571150095
def o1 (x : Nat) : Nat := (x / 2 &&& m0) + (x &&& m0)
def o2 (x : Nat) : Nat := (x / 4 &&& m1) + (x &&& m1)
def o3 (x : Nat) : Nat := (x / 16 + x) &&& m2
def o4 (x : Nat) : Nat := x + x / 256
def o5 (x : Nat) : Nat := x + x / 65536
def o6 (x : Nat) : Nat := x + x / 4294967296
theorem o1_join (l : List Nat) (h : Bytes8 l) (h8 : l.length = 8) : o1 (joinB l) = joinB (l.map g1) := by
  have hm : maskB 85 8 = m0 := by decide
  have a := shift_mask 1 85 (by omega) sh1 (by omega) l h
  have b := and_mask 85 (by omega) l h
  rw [h8, hm] at a b
  unfold o1
  rw [show joinB l / 2 = joinB l / 2 ^ 1 from rfl, a, b, joinB_add]
  rfl
theorem o2_join (l : List Nat) (h : Bytes8 l) (h8 : l.length = 8) : o2 (joinB l) = joinB (l.map g2) := by
  have hm : maskB 51 8 = m1 := by decide
  have a := shift_mask 2 51 (by omega) sh2 (by omega) l h
  have b := and_mask 51 (by omega) l h
  rw [h8, hm] at a b
  unfold o2
  rw [show joinB l / 4 = joinB l / 2 ^ 2 from rfl, a, b, joinB_add]
  rfl
theorem o3_join (l : List Nat) (h : Nib l) (h8 : l.length = 8) : o3 (joinB l) = joinB (l.map g3) := by
  have hm : maskB 15 8 = m2 := by decide
  have a := nib_mask l h
  rw [h8, hm] at a
  exact a
theorem div1 (c : Nat) (r : List Nat) (hc : c < 256) : joinB (c :: r) / 256 = joinB r := by simp only [joinB]; omega
theorem div2 (c d : Nat) (r : List Nat) (hc : c < 256) (hd : d < 256) : joinB (c :: d :: r) / 65536 = joinB r := by simp only [joinB]; omega
theorem div4 (c d e f : Nat) (r : List Nat) (hc : c < 256) (hd : d < 256) (he : e < 256) (hf : f < 256) : joinB (c :: d :: e :: f :: r) / 4294967296 = joinB r := by simp only [joinB]; omega
theorem sum8 (b0 b1 b2 b3 b4 b5 b6 b7 : Nat) (h0 : b0 ≤ 8) (h1 : b1 ≤ 8) (h2 : b2 ≤ 8) (h3 : b3 ≤ 8) (h4 : b4 ≤ 8) (h5 : b5 ≤ 8) (h6 : b6 ≤ 8) (h7 : b7 ≤ 8) :
    o6 (o5 (o4 (joinB [b0, b1, b2, b3, b4, b5, b6, b7]))) % 128 = b0 + b1 + b2 + b3 + b4 + b5 + b6 + b7 := by
  have q1 : o4 (joinB [b0, b1, b2, b3, b4, b5, b6, b7]) = joinB [b0 + b1, b1 + b2, b2 + b3, b3 + b4, b4 + b5, b5 + b6, b6 + b7, b7] := by
    unfold o4
    rw [div1 _ _ (by omega)]
    simp only [joinB]; omega
  have q2 : o5 (joinB [b0 + b1, b1 + b2, b2 + b3, b3 + b4, b4 + b5, b5 + b6, b6 + b7, b7]) = joinB [b0 + b1 + b2 + b3, b1 + b2 + b3 + b4, b2 + b3 + b4 + b5, b3 + b4 + b5 + b6, b4 + b5 + b6 + b7, b5 + b6 + b7, b6 + b7, b7] := by
    unfold o5
    rw [div2 _ _ _ (by omega) (by omega)]
    simp only [joinB]; omega
  have q3 : o6 (joinB [b0 + b1 + b2 + b3, b1 + b2 + b3 + b4, b2 + b3 + b4 + b5, b3 + b4 + b5 + b6, b4 + b5 + b6 + b7, b5 + b6 + b7, b6 + b7, b7]) = joinB [b0 + b1 + b2 + b3 + b4 + b5 + b6 + b7, b1 + b2 + b3 + b4 + b5 + b6 + b7, b2 + b3 + b4 + b5 + b6 + b7, b3 + b4 + b5 + b6 + b7, b4 + b5 + b6 + b7, b5 + b6 + b7, b6 + b7, b7] := by
    unfold o6
    rw [div4 _ _ _ _ _ (by omega) (by omega) (by omega) (by omega)]
    simp only [joinB]; omega
  rw [q1, q2, q3]
  have h128 : ∀ (c : Nat) (r : List Nat), joinB (c :: r) % 128 = c % 128 := fun c r => by simp only [joinB]; omega
  rw [h128]
  omega
/-- The way of the library's OnesCount64 counts bits. -/
theorem ones_eq (w : Nat) (hw : w < 18446744073709551616) : o6 (o5 (o4 (o3 (o2 (o1 w))))) % 128 = popB 64 w := by
  have hlen := bytesN_length 8 w
  have hlt := bytesN_lt 8 w
  have hj := bytesN_join 8 w (by omega)
  have hp := joinB_pop (bytesN 8 w) hlt
  rw [hlen, hj] at hp
  rw [show (64 : Nat) = 8 * 8 from rfl, hp]
  have a1 := o1_join _ hlt hlen
  rw [hj] at a1
  have l1 : Bytes8 ((bytesN 8 w).map g1) := fun c hc => by
    obtain ⟨d, hd, rfl⟩ := List.mem_map.1 hc
    exact (g_all d (hlt d hd)).1
  have a2 := o2_join _ l1 (by simp [hlen])
  have l2 : Nib (((bytesN 8 w).map g1).map g2) := fun c hc => by
    obtain ⟨d, hd, rfl⟩ := List.mem_map.1 hc
    obtain ⟨e, he, rfl⟩ := List.mem_map.1 hd
    exact ⟨(g_all e (hlt e he)).2.1, (g_all e (hlt e he)).2.2.1, (g_all e (hlt e he)).2.2.2.1⟩
  have a3 := o3_join _ l2 (by simp [hlen])
  rw [a1, a2, a3]
  have hmap : (((bytesN 8 w).map g1).map g2).map g3 = (bytesN 8 w).map (popB 8) := by
    rw [List.map_map, List.map_map]
    refine List.map_congr_left fun c hc => ?_
    exact (g_all c (hlt c hc)).2.2.2.2
  rw [hmap]
  match hb : (bytesN 8 w).map (popB 8), (show ((bytesN 8 w).map (popB 8)).length = 8 by simp [hlen]) with
  | [b0, b1, b2, b3, b4, b5, b6, b7], _ =>
    have hle : ∀ x ∈ [b0, b1, b2, b3, b4, b5, b6, b7], x ≤ 8 := by
      rw [← hb]
      intro x hx
      obtain ⟨d, hd, rfl⟩ := List.mem_map.1 hx
      exact popB_le 8 d
    rw [sum8 _ _ _ _ _ _ _ _ (hle b0 (by simp)) (hle b1 (by simp)) (hle b2 (by simp)) (hle b3 (by simp)) (hle b4 (by simp)) (hle b5 (by simp)) (hle b6 (by simp)) (hle b7 (by simp))]
    simp only [List.sum_cons, List.sum_nil]
    omega
end Go.Proofs.Ytlfnefgcndhomaa
