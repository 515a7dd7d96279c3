
/-
  What is proved: a contract of the model's l1Put, where the number is not yet there; contracts of the model's l3From without pointers and with them, for types that are shaped. No condition beside what each theorem states.
-/
import Derived.Test.YtcekjdikoamjjaaPushAll
import Derived.Test.YtcekjdikoamjjaaISpread
import Derived.Test.YtcekjdikoamjjaaIGood
namespace Go.Proofs.Ytcekjdikoamjjaa
open Go.ChangeShapes Go.WideShapes Go.ChangeAt Go.RowKit

theorem Nums.head {w : World} {a : Option Addr} {l : List Int} (h : Nums w a l) (k : Nat) : Nums w a (l.take k) := fun i hi => by
  have : i < l.length := by simp at hi; omega
  obtain ⟨b, o, e, h1, h2⟩ := h i this
  exact ⟨b, o, e, h1, by rw [h2, List.getElem_take]⟩
theorem Nums.tail {w : World} {b o : Nat} {l : List Int} (h : Nums w (some ⟨b, o, none⟩) l) (k : Nat) : Nums w (some ⟨b, o + k, none⟩) (l.drop k) := fun i hi => by
  have : k + i < l.length := by simp at hi; omega
  obtain ⟨b', o', e, h1, h2⟩ := h (k + i) this
  cases e
  exact ⟨b, o + k, rfl, h1, by rw [List.getElem_drop, ← h2, Nat.add_assoc]⟩
theorem put_mem {l : List Int} {n : Int} (k : Nat) (y : Int) : y ∈ l.take k ++ [n] ++ l.drop k ↔ y = n ∨ y ∈ l := by
  have h : y ∈ l ↔ y ∈ l.take k ∨ y ∈ l.drop k := by rw [← List.mem_append, List.take_append_drop]
  rw [h]
  simp only [List.mem_append, List.mem_singleton]
  constructor
  · rintro ((h | h) | h)
    · exact .inr (.inl h)
    · exact .inl h
    · exact .inr (.inr h)
  · rintro (h | h | h)
    · exact .inl (.inr h)
    · exact .inl (.inl h)
    · exact .inr h

/-- Rising. -/
def Rises (l : List Int) : Prop := l.Pairwise (· < ·)
theorem put_rises {l : List Int} {n : Int} {k : Nat} (h : Rises l) (h1 : ∀ j (hj : j < l.length), j < k → l[j] < n) (h2 : ∀ (hk : k < l.length), ¬ l[k] < n) (hno : n ∉ l) : Rises (l.take k ++ [n] ++ l.drop k) := by
  unfold Rises at *
  rw [List.pairwise_iff_getElem] at h
  have ht : ∀ y ∈ l.take k, ∃ j, ∃ hj : j < l.length, j < k ∧ l[j] = y := fun y hy => by
    obtain ⟨j, hj, e⟩ := List.getElem_of_mem hy
    rw [List.getElem_take] at e
    rw [List.length_take] at hj
    exact ⟨j, by omega, by omega, e⟩
  have hd : ∀ y ∈ l.drop k, ∃ j, ∃ hj : j < l.length, k ≤ j ∧ l[j] = y := fun y hy => by
    obtain ⟨j, hj, e⟩ := List.getElem_of_mem hy
    rw [List.getElem_drop] at e
    rw [List.length_drop] at hj
    exact ⟨k + j, by omega, by omega, e⟩
  have hgt : ∀ y ∈ l.drop k, n < y := fun y hy => by
    obtain ⟨j, hj, hkj, rfl⟩ := hd y hy
    have hk : k < l.length := by omega
    have h3 := h2 hk
    have h4 : l[k] ≠ n := fun e => hno (e ▸ List.getElem_mem hk)
    by_cases e : j = k
    · subst e; omega
    · have := h k j hk hj (by omega); omega
  have hlt : ∀ y ∈ l.take k, y < n := fun y hy => by
    obtain ⟨j, hj, hjk, rfl⟩ := ht y hy
    exact h1 j hj hjk
  have hp : (l.take k).Pairwise (· < ·) := by
    have := List.pairwise_iff_getElem.2 h
    rw [← List.take_append_drop k l, List.pairwise_append] at this
    exact this.1
  have hq : (l.drop k).Pairwise (· < ·) := by
    have := List.pairwise_iff_getElem.2 h
    rw [← List.take_append_drop k l, List.pairwise_append] at this
    exact this.2.1
  rw [List.pairwise_append, List.pairwise_append]
  refine ⟨⟨hp, List.pairwise_singleton _ _, fun a ha b hb => ?_⟩, hq, fun a ha b hb => ?_⟩
  · rw [List.mem_singleton.1 hb]; exact hlt a ha
  · rcases List.mem_append.1 ha with h | h
    · have := hlt a h; have := hgt b hb; omega
    · rw [List.mem_singleton.1 h]; exact hgt b hb

end Go.Proofs.Ytcekjdikoamjjaa

namespace Go.Proofs.Ytcekjdikoamjjaa
open Go.ChangeShapes Go.WideShapes Go.ChangeAt Go.RowKit

theorem near.mParts {l : List TypeD} (h : near l) (n : Nat) (hn : n < l.length) : mPartsD l[n] = insideD l[n] := by
  rcases h.ok n hn with ⟨h3, hb⟩ | ⟨_, ho⟩
  · exact mParts_base h3 hb
  · exact mParts_typeOk ho
theorem near.ptr {l : List TypeD} (h : near l) (n : Nat) (hn : n < l.length) (h6 : l[n].fKind = 6) : insideD l[n] = [] ∧ partsD l[n] = [l[n].fBase] := by
  refine ⟨if_pos h6, ?_⟩
  rcases h.ok n hn with ⟨h3, hb⟩ | ⟨_, ho⟩
  · have := hb.1; omega
  · rcases ho.2 with ⟨k, _⟩ | ⟨k, _⟩ | ⟨_, _, b, f⟩
    · omega
    · omega
    · have := kindZ_range (l := l) (x := l[n].fBase) (by omega)
      unfold partsD
      rw [if_neg (by omega), List.eq_nil_of_length_eq_zero f]
      rfl
theorem noptr {t : TypeD} (h6 : t.fKind ≠ 6) : insideD t = partsD t := if_neg h6

/-- The numbers of a set. -/
def laid (R : List Bool) (m : List Int) : Prop := (∀ y, y ∈ m ↔ Got R y) ∧ Rises m ∧ m.length + R.count false = R.length
theorem laid_start (k : Nat) : laid (List.replicate k false) [] := by
  refine ⟨fun y => ⟨fun h => absurd h (by simp), fun ⟨n, _, h⟩ => ?_⟩, List.Pairwise.nil, by simp⟩
  rw [List.getElem?_replicate] at h
  split at h <;> simp at h
theorem laid.put {R : List Bool} {m m' : List Int} {n : Nat} (h : laid R m) (hn : R[n]? = some false) (h1 : ∀ y, y ∈ m' ↔ y = (n : Int) ∨ y ∈ m) (h2 : Rises m → Rises m') (h3 : m'.length = m.length + 1) : laid (R.set n true) m' := by
  have hlt : n < R.length := (List.getElem?_eq_some_iff.1 hn).1
  refine ⟨fun y => ?_, h2 h.2.1, by have := count_set hn; have := h.2.2; rw [List.length_set]; omega⟩
  rw [h1 y, h.1 y]
  constructor
  · rintro (rfl | h)
    · exact Got.new hlt
    · exact h.set
  · rintro ⟨k, rfl, hk⟩
    rw [List.getElem?_set] at hk
    split at hk
    · rename_i e; exact .inl (by rw [e])
    · exact .inr ⟨k, rfl, hk⟩

def apart (vo vq : Value) : Prop := ∀ k, vo.ownBlock = some k → vq.ownBlock ≠ some k

end Go.Proofs.Ytcekjdikoamjjaa
