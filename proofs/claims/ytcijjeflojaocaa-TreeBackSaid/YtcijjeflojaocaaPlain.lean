/-
  A branch as it lies in memory, as a plain tree; its parts in the order.
-/
import Derived.Test.YtcijjeflojaocaaRows
namespace Go.Proofs.Ytcijjeflojaocaa
set_option linter.unusedVariables false

/-- A branch's own numbers, and where its names and its kids lie. -/
structure Hd where
  k : Int
  m : Int
  f : Int
  t : Int
  np : Option Addr
  nn : Nat
  nc : Nat
  ns : List Int
  kp : Option Addr
  kn : Nat
  kc : Nat
/-- A branch. -/
inductive Br where
  | mk (h : Hd) (ks : List Br)
def Br.h : Br → Hd | .mk h _ => h
def Br.ks : Br → List Br | .mk _ ks => ks
theorem Br.eta : (b : Br) → Br.mk b.h b.ks = b | .mk _ _ => rfl

theorem Br.ind {P : Br → Prop} (hP : ∀ h ks, (∀ b ∈ ks, P b) → P (.mk h ks)) : ∀ b, P b := fun b =>
  Br.rec (motive_1 := P) (motive_2 := fun ks => ∀ b ∈ ks, P b) (fun h ks ih => hP h ks ih) (fun b hb => by cases hb)
    (fun x r hx hr b hb => by
      rcases List.mem_cons.1 hb with rfl | hb
      · exact hx
      · exact hr b hb) b

mutual
def Br.size : Br → Nat
  | .mk _ ks => sizes ks + 1
def sizes : List Br → Nat
  | [] => 0
  | b :: r => b.size + sizes r
end
theorem Br.size_eq : (b : Br) → b.size = sizes b.ks + 1 | .mk _ _ => by simp only [Br.size, Br.ks]
theorem Br.size_pos (b : Br) : 0 < b.size := by rw [Br.size_eq]; omega
theorem sizes_append (a b : List Br) : sizes (a ++ b) = sizes a + sizes b := by
  induction a with
  | nil => simp [sizes]
  | cons x r ih => simp only [List.cons_append, sizes, ih]; omega
theorem sizes_len (ks : List Br) : ks.length ≤ sizes ks := by
  induction ks with
  | nil => simp [sizes]
  | cons x r ih => have := x.size_pos; simp only [List.length_cons, sizes]; omega
theorem size_le_sizes {b : Br} {ks : List Br} (h : b ∈ ks) : b.size ≤ sizes ks := by
  induction ks with
  | nil => cases h
  | cons x r ih =>
    simp only [sizes]
    rcases List.mem_cons.1 h with rfl | h
    · omega
    · have := ih h; omega

/-- A part of a branch: it, its parent, how deep it lies, its next one, its own number, and where its parent's parts end. -/
structure Ent where
  b : Br
  up : Int
  deep : Int
  next : Int
  pos : Nat
  stop : Nat

mutual
def Br.flat (up deep next : Int) (stop n : Nat) : Br → List Ent
  | .mk h ks => ⟨.mk h ks, up, deep, next, n, stop⟩ :: flats n (deep + 1) (n + (sizes ks + 1)) (n + 1) ks
def flats (up : Nat) (deep : Int) (stop m : Nat) : List Br → List Ent
  | [] => []
  | b :: r => b.flat (up : Int) deep (bif r.isEmpty then -1 else ((m + b.size : Nat) : Int)) stop m ++ flats up deep stop (m + b.size) r
end

/-- Where kids lie. -/
def offs (m : Nat) : List Br → List Nat
  | [] => []
  | b :: r => m :: offs (m + b.size) r

theorem flat_eq (up deep next : Int) (stop n : Nat) (b : Br) : b.flat up deep next stop n = ⟨b, up, deep, next, n, stop⟩ :: flats n (deep + 1) (n + b.size) (n + 1) b.ks := by
  cases b; simp only [Br.flat, Br.ks, Br.size]
theorem flats_length_of {ks : List Br} (ih : ∀ b ∈ ks, ∀ up deep next stop n, (Br.flat up deep next stop n b).length = b.size) (up : Nat) (deep : Int) (stop m : Nat) : (flats up deep stop m ks).length = sizes ks := by
  induction ks generalizing m with
  | nil => simp [flats, sizes]
  | cons x r ih' =>
    simp only [flats, sizes, List.length_append]
    rw [ih x (by simp), ih' (fun b hb => ih b (by simp [hb]))]
theorem flat_length (b : Br) : ∀ up deep next stop n, (b.flat up deep next stop n).length = b.size := by
  induction b using Br.ind with
  | hP h ks ih =>
    intro up deep next stop n
    simp only [Br.flat, Br.size, List.length_cons]
    rw [flats_length_of ih]
theorem flats_length (ks : List Br) (up : Nat) (deep : Int) (stop m : Nat) : (flats up deep stop m ks).length = sizes ks := flats_length_of (fun b _ => flat_length b) up deep stop m

/-- At place m of l these entries lie. -/
def Sits (l : List Ent) (m : Nat) (s : List Ent) : Prop := ∀ j, j < s.length → l[m + j]? = s[j]?
theorem Sits.left {l : List Ent} {m : Nat} {a b : List Ent} (h : Sits l m (a ++ b)) : Sits l m a := fun j hj => by
  rw [h j (by simp; omega), List.getElem?_append_left hj]
theorem Sits.right {l : List Ent} {m : Nat} {a b : List Ent} (h : Sits l m (a ++ b)) : Sits l (m + a.length) b := fun j hj => by
  have := h (a.length + j) (by simp; omega)
  rw [show m + a.length + j = m + (a.length + j) by omega, this, List.getElem?_append_right (by omega)]
  congr 1; omega
theorem Sits.head {l : List Ent} {m : Nat} {e : Ent} {r : List Ent} (h : Sits l m (e :: r)) : l[m]? = some e := by
  have := h 0 (by simp); simpa using this
theorem Sits.tail {l : List Ent} {m : Nat} {e : Ent} {r : List Ent} (h : Sits l m (e :: r)) : Sits l (m + 1) r := fun j hj => by
  have := h (j + 1) (by simp; omega)
  rw [show m + 1 + j = m + (j + 1) by omega, this]; simp

/-- What an entry says of what lies behind it. -/
def Ent.Here (l : List Ent) (e : Ent) : Prop := Sits l e.pos (e.b.flat e.up e.deep e.next e.stop e.pos)

theorem here_of_flats {l : List Ent} {ks : List Br} (ih : ∀ b ∈ ks, ∀ up deep next stop n, Sits l n (Br.flat up deep next stop n b) → ∀ e ∈ Br.flat up deep next stop n b, e.Here l)
    (up : Nat) (deep : Int) (stop m : Nat) (hs : Sits l m (flats up deep stop m ks)) : ∀ e ∈ flats up deep stop m ks, e.Here l := by
  induction ks generalizing m with
  | nil => intro e he; simp [flats] at he
  | cons x r ih' =>
    intro e he
    simp only [flats] at hs he
    rcases List.mem_append.1 he with he | he
    · exact ih x (by simp) _ _ _ _ _ hs.left e he
    · have h2 := hs.right
      rw [flat_length] at h2
      exact ih' (fun b hb => ih b (by simp [hb])) _ h2 e he
theorem here_of_flat {l : List Ent} (b : Br) : ∀ up deep next stop n, Sits l n (b.flat up deep next stop n) → ∀ e ∈ b.flat up deep next stop n, e.Here l := by
  induction b using Br.ind with
  | hP h ks ih =>
    intro up deep next stop n hs e he
    have hs' := hs
    simp only [Br.flat] at hs' he
    rcases List.mem_cons.1 he with rfl | he
    · exact hs
    · exact here_of_flats ih _ _ _ _ hs'.tail e he

/-- All parts of a branch, in the order. -/
def Br.all (b : Br) : List Ent := b.flat (-1) 1 (-1) b.size 0
theorem all_length (b : Br) : b.all.length = b.size := flat_length b _ _ _ _ _
theorem here_of_all {b : Br} {e : Ent} (he : e ∈ b.all) : e.Here b.all := here_of_flat b _ _ _ _ _ (fun j hj => by rw [Nat.zero_add]; rfl) e he
theorem pos_of_flats {ks : List Br} (ih : ∀ b ∈ ks, ∀ up deep next stop n i e, (Br.flat up deep next stop n b)[i]? = some e → e.pos = n + i) (up : Nat) (deep : Int) (stop m : Nat) (i : Nat) (e : Ent) (h : (flats up deep stop m ks)[i]? = some e) : e.pos = m + i := by
  induction ks generalizing m i with
  | nil => simp [flats] at h
  | cons x r ih' =>
    simp only [flats] at h
    rw [List.getElem?_append] at h
    split at h
    · exact ih x (by simp) _ _ _ _ _ _ _ h
    · rename_i hlt
      rw [flat_length] at h hlt
      have := ih' (fun b hb => ih b (by simp [hb])) _ _ h
      omega
theorem pos_of_flat (b : Br) : ∀ up deep next stop n i e, (b.flat up deep next stop n)[i]? = some e → e.pos = n + i := by
  induction b using Br.ind with
  | hP h ks ih =>
    intro up deep next stop n i e he
    simp only [Br.flat] at he
    cases i with
    | zero => simp at he; rw [← he]; rfl
    | succ i =>
      rw [List.getElem?_cons_succ] at he
      have := pos_of_flats ih _ _ _ _ _ _ he
      omega
theorem pos_of_all {b : Br} {i : Nat} {e : Ent} (h : b.all[i]? = some e) : e.pos = i := by
  have := pos_of_flat b _ _ _ _ _ _ _ h; omega
theorem here_at {b : Br} {i : Nat} {e : Ent} (h : b.all[i]? = some e) : e.Here b.all := here_of_all (List.mem_of_getElem? h)

/-- A chain of kids through an arena. -/
def Chain (next : Nat → Option Int) : Int → List Nat → Prop
  | x, [] => x = -1
  | x, k :: r => x = (k : Int) ∧ ∃ y, next k = some y ∧ Chain next y r
def firstOf (b : Br) (n : Nat) : Int := bif b.ks.isEmpty then -1 else ((n + 1 : Nat) : Int)
theorem chain_flats (l : List Ent) (ks : List Br) (up : Nat) (deep : Int) (stop m : Nat) (h : Sits l m (flats up deep stop m ks)) : Chain (fun i => l[i]?.map Ent.next) (bif ks.isEmpty then -1 else (m : Int)) (offs m ks) := by
  induction ks generalizing m with
  | nil => rfl
  | cons x r ih =>
    simp only [flats] at h
    have h1 := h.left
    rw [flat_eq] at h1
    have h2 := h.right
    rw [flat_length] at h2
    refine ⟨rfl, _, by simp [h1.head], ih _ h2⟩
theorem chain_at {b : Br} {i : Nat} {e : Ent} (h : b.all[i]? = some e) : Chain (fun i => b.all[i]?.map Ent.next) (firstOf e.b i) (offs (i + 1) e.b.ks) := by
  have h1 := here_at h
  unfold Ent.Here at h1
  rw [flat_eq, pos_of_all h] at h1
  exact chain_flats _ _ _ _ _ _ h1.tail
end Go.Proofs.Ytcijjeflojaocaa
