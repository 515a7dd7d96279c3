
/-
  What is proved: plain facts on numbers as bytes of seven bits each; What is said: the numbers of the bytes of a text. No condition beside what each theorem states.
-/
import Derived.Below
import Derived.Laws.BytesArg
import Derived.Test.YtjhfjcindgaekaaMem
namespace Go.Proofs.Ytjhfjcindgaekaa

/-- The bytes of a number, seven bits each, the lowest first. -/
def vb (n : Nat) : List Int := if n < 128 then [(n : Int)] else ((n % 128 + 128 : Nat) : Int) :: vb (n / 128)
termination_by n
decreasing_by omega

theorem vb_lt {n : Nat} (h : n < 128) : vb n = [(n : Int)] := by rw [vb, if_pos h]
theorem vb_ge {n : Nat} (h : 128 ≤ n) : vb n = ((n % 128 + 128 : Nat) : Int) :: vb (n / 128) := by rw [vb, if_neg (by omega)]

/-- The number of such bytes. -/
def val : List Int → Nat
  | [] => 0
  | c :: l => c.toNat % 128 + 128 * val l

/-- All but the last have 128 added. -/
def Term : List Int → Prop
  | [] => False
  | c :: l => (l = [] ∧ 0 ≤ c ∧ c < 128) ∨ (128 ≤ c ∧ c < 256 ∧ Term l)

theorem vb_term (n : Nat) : Term (vb n) := by
  induction n using Nat.strongRecOn with
  | ind n ih =>
    by_cases h : n < 128
    · rw [vb_lt h]; exact .inl ⟨rfl, by omega, by omega⟩
    · rw [vb_ge (by omega)]; exact .inr ⟨by omega, by omega, ih _ (by omega)⟩

theorem val_vb (n : Nat) : val (vb n) = n := by
  induction n using Nat.strongRecOn with
  | ind n ih =>
    by_cases h : n < 128
    · rw [vb_lt h]; simp [val]; omega
    · rw [vb_ge (by omega), val, ih _ (by omega)]; omega

theorem vb_len (k : Nat) : ∀ n, n < 128 ^ (k + 1) → (vb n).length ≤ k + 1 := by
  induction k with
  | zero => intro n h; rw [vb_lt (by simpa using h)]; simp
  | succ k ih =>
    intro n h
    by_cases h1 : n < 128
    · rw [vb_lt h1]; simp
    · rw [vb_ge (by omega)]
      have := ih (n / 128) (by rw [Nat.pow_succ] at h; omega)
      simpa using this

theorem term_bd : ∀ {l : List Int}, Term l → ∀ c ∈ l, 0 ≤ c ∧ c < 256
  | [], h, _, _ => h.elim
  | c :: l, h, d, hd => by
    rcases h with ⟨rfl, h1, h2⟩ | ⟨h1, h2, h3⟩
    · simp at hd; omega
    · rcases List.mem_cons.1 hd with rfl | hd
      · omega
      · exact term_bd h3 d hd

def pad (m : Nat) (l : List Int) : List Int := l ++ List.replicate (m - l.length) 0

theorem pad_inj : ∀ (m : Nat) (l l' : List Int), Term l → Term l' → l.length ≤ m → l'.length ≤ m → pad m l = pad m l' → l = l'
  | _, [], _, h, _, _, _, _ => h.elim
  | _, _ :: _, [], _, h, _, _, _ => h.elim
  | 0, _ :: _, _ :: _, _, _, h, _, _ => by simp at h
  | m + 1, c :: t, c' :: t', h, h', hl, hl', e => by
    simp only [List.length_cons] at hl hl'
    simp only [pad, List.cons_append, List.length_cons, Nat.add_sub_add_right, List.cons.injEq] at e
    obtain ⟨rfl, e⟩ := e
    rcases h with ⟨rfl, h1, h2⟩ | ⟨h1, h2, h3⟩
    · rcases h' with ⟨rfl, _, _⟩ | ⟨h4, _, _⟩
      · rfl
      · omega
    · rcases h' with ⟨rfl, _, h5⟩ | ⟨_, _, h6⟩
      · omega
      · rw [pad_inj m t t' h3 h6 (by omega) (by omega) e]

/-- What a box of five bytes holds behind the bytes l. -/
def boxOf (l : List Int) : Array Value := ((pad 5 l).map (Value.int .u8)).toArray

theorem boxOf_inj {l l' : List Int} (h : Term l) (h' : Term l') (hl : l.length ≤ 5) (hl' : l'.length ≤ 5) (e : boxOf l = boxOf l') : l = l' := by
  refine pad_inj 5 l l' h h' hl hl' ?_
  have e1 : (pad 5 l).map (Value.int .u8) = (pad 5 l').map (Value.int .u8) := by
    have := congrArg Array.toList e
    simpa [boxOf] using this
  exact List.map_inj_right (fun a b h => by injection h) |>.1 e1

theorem boxOf_size {l : List Int} (hl : l.length ≤ 5) : (boxOf l).size = 5 := by simp [boxOf, pad]; omega

theorem boxOf_get {l : List Int} {i : Nat} (hl : l.length ≤ 5) (hi : i < 5) : (boxOf l)[i]? = some (.int .u8 (l.getD i 0)) := by
  simp only [boxOf, List.getElem?_toArray, List.getElem?_map, pad]
  by_cases h : i < l.length
  · rw [List.getElem?_append_left h]; simp [h]
  · rw [List.getElem?_append_right (by omega), List.getElem?_replicate, if_pos (by omega)]
    simp [List.getD, List.getElem?_eq_none (show l.length ≤ i by omega)]

theorem boxOf_snoc {l : List Int} (hl : l.length < 5) (c : Int) : (boxOf l).setIfInBounds l.length (.int .u8 c) = boxOf (l ++ [c]) := by
  apply Array.ext_getElem?
  intro i
  by_cases hi : i < 5
  · rw [boxOf_get (by simp; omega) hi, Array.getElem?_setIfInBounds, boxOf_size (by omega)]
    by_cases e : l.length = i
    · subst e; rw [if_pos rfl, if_pos hi]; simp [List.getD]
    · rw [if_neg e, boxOf_get (by omega) hi]
      congr 2
      simp only [List.getD]
      by_cases h : i < l.length
      · rw [List.getElem?_append_left h]
      · rw [List.getElem?_eq_none (by omega), List.getElem?_eq_none (by simp; omega)]
  · rw [Array.getElem?_eq_none (by simp [boxOf_size (show l.length ≤ 5 by omega)]; omega), Array.getElem?_eq_none (by rw [boxOf_size (by simp; omega)]; omega)]

theorem strOfNums_inj {l l' : List Int} (h : ∀ c ∈ l, 0 ≤ c ∧ c < 256) (h' : ∀ c ∈ l', 0 ≤ c ∧ c < 256) (e : strOfNums l = strOfNums l') : l = l' := by
  have e1 : l.map (fun n => UInt8.ofNat n.toNat) = l'.map (fun n => UInt8.ofNat n.toNat) := by
    have := congrArg (fun s : ByteArray => s.data.toList) e
    simpa [strOfNums] using this
  clear e
  induction l generalizing l' with
  | nil => cases l' with
    | nil => rfl
    | cons => simp at e1
  | cons c t ih => cases l' with
    | nil => simp at e1
    | cons c' t' =>
      simp only [List.map_cons, List.cons.injEq] at e1
      have b := h c (by simp)
      have b' := h' c' (by simp)
      have : c.toNat = c'.toNat := by
        have := congrArg UInt8.toNat e1.1
        simp only [UInt8.toNat_ofNat'] at this
        omega
      rw [ih (fun d hd => h d (by simp [hd])) (fun d hd => h' d (by simp [hd])) e1.2, show c = c' by omega]

end Go.Proofs.Ytjhfjcindgaekaa

namespace Go.Proofs.Ytjhfjcindgaekaa
open Go.RowKit

/-- The numbers of bytes. -/
def numsOf (s : ByteArray) : List Int := s.data.toList.map fun b => (b.toNat : Int)
theorem numsOf_len (s : ByteArray) : (numsOf s).length = s.size := by simp [numsOf]
theorem numsOf_at (s : ByteArray) {k : Nat} (h : k < s.size) (h' : k < (numsOf s).length) : (numsOf s)[k] = (s[k].toNat : Int) := by
  simp only [numsOf, List.getElem_map]
  rfl
theorem numsOf_next (s : ByteArray) (k : Nat) (h : k < s.size) : (numsOf s).take k ++ [(s[k].toNat : Int)] = (numsOf s).take (k + 1) := by
  have h' : k < (numsOf s).length := by rw [numsOf_len]; exact h
  rw [List.take_succ_eq_append_getElem h', numsOf_at s h h']
theorem numsOf_take (s : ByteArray) (k : Nat) (h : ¬ k < s.size) : (numsOf s).take k = numsOf s := List.take_of_length_le (by rw [numsOf_len]; omega)
end Go.Proofs.Ytjhfjcindgaekaa
