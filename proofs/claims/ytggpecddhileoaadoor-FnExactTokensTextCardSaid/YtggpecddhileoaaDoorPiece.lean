
/-
  What is proved: facts on pieces of a text and the tokens that they are. No condition beside what each theorem states.
-/
import Derived.Test.YtggpecddhileoaaDoorTok
namespace Go.Proofs.YtggpecddhileoaaDoor
open Go.ChangeShapes Go.WideShapes Go.ChangeAt Go.RowKit

def alnum (c : Int) : Bool := lett c || digt c
/-- A piece of a text from a place on: letters and digits as far as they go, or one byte. -/
def IsPiece (s : ByteArray) (k m : Nat) : Prop := k < m ∧ m ≤ s.size ∧
  ((alnum (byteAt s k) = true ∧ (∀ j, k ≤ j → j < m → alnum (byteAt s j) = true) ∧ (m < s.size → alnum (byteAt s m) = false)) ∨ (alnum (byteAt s k) = false ∧ m = k + 1))

theorem IsPiece.unique {s : ByteArray} {k m m' : Nat} (h : IsPiece s k m) (h' : IsPiece s k m') : m = m' := by
  obtain ⟨h1, h2, h3⟩ := h
  obtain ⟨h1', h2', h3'⟩ := h'
  rcases h3 with ⟨a1, a2, a3⟩ | ⟨a1, rfl⟩
  · rcases h3' with ⟨b1, b2, b3⟩ | ⟨b1, _⟩
    · rcases Nat.lt_trichotomy m m' with hl | hl | hl
      · have := b2 m (by omega) hl
        rw [a3 (by omega)] at this
        cases this
      · exact hl
      · have := a2 m' (by omega) hl
        rw [b3 (by omega)] at this
        cases this
    · rw [a1] at b1; cases b1
  · rcases h3' with ⟨b1, _⟩ | ⟨_, rfl⟩
    · rw [a1] at b1; cases b1
    · rfl

theorem numOk_first {s : ByteArray} (h : numOk s) : digt (byteAt s 0) = true := by
  rcases h with ⟨h1, h2⟩ | ⟨_, h1⟩
  · have h3 := h2.2.2.1
    have h4 := h2.1
    rw [ByteArray.size_extract] at h4
    rwa [byteAt_extract s 0 (s.size - 1) 0 (by omega) (by omega)] at h3
  · exact h1.2.2.1
theorem words_first : ∀ k : Fin 15, lett (byteAt (wordZ k.val) 0) = true := by decide
theorem isWP_first {s : ByteArray} (h : isWP s) : lett (byteAt s 0) = true := by
  obtain ⟨k, hk, rfl⟩ := h
  exact words_first ⟨k, hk⟩
theorem nameP_first {s : ByteArray} (h : nameP s) : lett (byteAt s 0) = true := by
  rcases h.2.2 0 (by have := h.1; omega) with h | h
  · exact h
  · exact absurd rfl h.1

theorem lett_digt {c : Int} (h : lett c = true) : digt c = false := by
  unfold lett at h
  unfold digt
  simp at h ⊢
  omega
theorem lett_sign {c : Int} (h : lett c = true) : signB c = false := by
  unfold lett at h
  unfold signB
  simp at h ⊢
  omega
theorem digt_sign {c : Int} (h : digt c = true) : signB c = false := by
  unfold digt at h
  unfold signB
  simp at h ⊢
  omega

section
variable {p : ByteArray}
theorem letter_num (hl : lett (byteAt p 0) = true) : ¬ numOk p := fun h1 => by have := numOk_first h1; rw [lett_digt hl] at this; cases this
theorem tokF_letter_word (hl : lett (byteAt p 0) = true) (h : isWP p) : tokF p = some (2, 0) := tokF_word (letter_num hl) h
theorem tokF_letter_name (hl : lett (byteAt p 0) = true) (h2 : ¬ isWP p) (h : nameP p) : tokF p = some (1, 0) := tokF_name (letter_num hl) h2 h
theorem tokF_letter_none (hl : lett (byteAt p 0) = true) (h2 : ¬ isWP p) (h : ¬ nameP p) : tokF p = none := tokF_none (letter_num hl) h2 h (fun h4 => by have := h4.2; rw [lett_sign hl] at this; cases this)
theorem digit_word (hd : digt (byteAt p 0) = true) : ¬ isWP p := fun h => by have := lett_digt (isWP_first h); rw [hd] at this; cases this
theorem digit_name (hd : digt (byteAt p 0) = true) : ¬ nameP p := fun h => by have := lett_digt (nameP_first h); rw [hd] at this; cases this
theorem tokF_digit_none (hd : digt (byteAt p 0) = true) (h : ¬ numOk p) : tokF p = none := tokF_none h (digit_word hd) (digit_name hd) (fun h4 => by have := h4.2; rw [digt_sign hd] at this; cases this)
theorem other_num (hd : digt (byteAt p 0) = false) : ¬ numOk p := fun h => by have := numOk_first h; rw [hd] at this; cases this
theorem other_word (hl : lett (byteAt p 0) = false) : ¬ isWP p := fun h => by have := isWP_first h; rw [hl] at this; cases this
theorem other_name (hl : lett (byteAt p 0) = false) : ¬ nameP p := fun h => by have := nameP_first h; rw [hl] at this; cases this
theorem tokF_other_sign (hl : lett (byteAt p 0) = false) (hd : digt (byteAt p 0) = false) (h1 : p.size = 1) (h : signB (byteAt p 0) = true) : tokF p = some (4, 0) := tokF_sign (other_num hd) (other_word hl) (other_name hl) ⟨h1, h⟩
theorem tokF_other_none (hl : lett (byteAt p 0) = false) (hd : digt (byteAt p 0) = false) (h : signB (byteAt p 0) = false) : tokF p = none := tokF_none (other_num hd) (other_word hl) (other_name hl) (fun h4 => by have := h4.2; rw [h] at this; cases this)
end

theorem words_ok : ∀ k : Fin 15, 1 ≤ (wordZ k.val).size ∧ (wordZ k.val).size ≤ 10 ∧ ∀ j : Fin 10, j.val < (wordZ k.val).size → lett (byteAt (wordZ k.val) j.val) = true := by decide
theorem words_names {s : ByteArray} (h : isWP s) : nameP s := by
  obtain ⟨k, hk, rfl⟩ := h
  obtain ⟨h1, h2, h3⟩ := words_ok ⟨k, hk⟩
  exact ⟨h1, h2, fun j hj => .inl (h3 ⟨j, by have : (wordZ k).size ≤ 10 := h2; omega⟩ hj)⟩

/-- A text that is a token is one piece. -/
theorem tokF_piece {s : ByteArray} {x : Int × Int} (h : tokF s = some x) : IsPiece s 0 s.size := by
  by_cases h1 : numOk s
  · have hf := numOk_first h1
    have hall : 1 ≤ s.size ∧ ∀ j, j < s.size → alnum (byteAt s j) = true := by
      rcases h1 with ⟨e, p⟩ | ⟨_, p⟩
      · refine ⟨e.1, fun j hj => ?_⟩
        by_cases hl : j = s.size - 1
        · rw [hl, e.2]; rfl
        · have hsz : (s.extract 0 (s.size - 1)).size = s.size - 1 := by rw [ByteArray.size_extract]; omega
          have := (p.2.2.2 j (by omega)).1
          rw [byteAt_extract s 0 (s.size - 1) j (by omega) (by omega), Nat.zero_add] at this
          revert this
          generalize byteAt s j = c
          unfold hexZ alnum lett digt
          intro this
          split at this
          · simp; omega
          · split at this
            · simp; omega
            · omega
      · refine ⟨p.1, fun j hj => ?_⟩
        have := (p.2.2.2 j hj)
        unfold digOk at this
        revert this
        generalize byteAt s j = c
        unfold hexZ alnum lett digt
        intro this
        split at this
        · simp; omega
        · split at this
          · omega
          · omega
    exact ⟨by omega, Nat.le_refl _, .inl ⟨hall.2 0 (by omega), fun j _ hj => hall.2 j hj, fun h => by omega⟩⟩
  by_cases h3 : nameP s
  · have hall : ∀ j, j < s.size → alnum (byteAt s j) = true := fun j hj => by
      unfold alnum
      rcases h3.2.2 j hj with h | h
      · rw [h]; rfl
      · rw [h.2]; simp
    have h0 := h3.1
    exact ⟨by omega, Nat.le_refl _, .inl ⟨hall 0 (by omega), fun j _ hj => hall j hj, fun h => by omega⟩⟩
  by_cases h2 : isWP s
  · exact absurd (words_names h2) h3
  by_cases h4 : signP s
  · have h5 := h4.1
    refine ⟨by omega, Nat.le_refl _, .inr ⟨?_, by omega⟩⟩
    have := h4.2
    revert this
    generalize byteAt s 0 = c
    unfold signB alnum lett digt
    intro this
    simp at this ⊢
    omega
  · rw [tokF_none h1 h2 h3 h4] at h; cases h

end Go.Proofs.YtggpecddhileoaaDoor
