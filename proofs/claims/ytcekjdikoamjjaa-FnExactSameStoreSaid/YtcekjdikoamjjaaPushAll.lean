
/-
  What is proved: contracts of the program's partsOf and insideOf; a contract of the model's l3Parts; it tells what insideOf does, for types that are shaped; rows of numbers, read; a contract of the model's l1Has; append of a row of numbers to one that the call owns, also where there is nothing to append; a contract of the model's l1Own; a contract of slices.Clone for numbers. No condition beside what each theorem states.
-/
import Derived.Test.YtcekjdikoamjjaaSFields
import Derived.Test.YtcekjdikoamjjaaIFields
import Derived.Maps.AppendAt
import Derived.Deep.Upon
import Derived.Lib.LazyBuf
namespace Go.Proofs.Ytcekjdikoamjjaa
open Go.ChangeShapes Go.WideShapes Go.ChangeAt Go.RowKit

theorem infoInt : (Try.prog.info? 3).map (fun i => (i.zero, i.size, i.bytes)) = some (some (.int .i64 0), 1, 8) := by kernel_rfl
def OwnInts (w : World) (B : Nat) (v : Value) (l : List Int) : Prop := w.ownsRow B 3 1 v l.length (l.map (Value.int .i64))
theorem OwnInts.nil {w : World} {B : Nat} : OwnInts w B (.slice none 0 0) [] := World.ownsRow_nil _ _ _ _
theorem OwnInts.alloc {w : World} {B : Nat} {v : Value} {l : List Int} (h : OwnInts w B v l) (o : Obj) : OwnInts (w.alloc o) B v l := World.ownsRow.alloc h o

theorem OwnInts.lower {w : World} {B B' : Nat} {v : Value} {l : List Int} (h : OwnInts w B v l) (hB : B' ≤ B) : OwnInts w B' v l :=
  ⟨h.1, h.2.imp id (fun ⟨g, cap, cur, h1, h2, h3⟩ => ⟨g, cap, cur, h1, Nat.le_trans hB h2, h3⟩)⟩

def partsTo (p : List Int) (fs : List FieldD) (k : Nat) : List Int := p ++ (fs.map FieldD.fType).take k
theorem partsTo_zero (p : List Int) (fs : List FieldD) : partsTo p fs 0 = p := by simp [partsTo]
theorem partsTo_all (p : List Int) (fs : List FieldD) : partsTo p fs fs.length = p ++ fs.map FieldD.fType := by unfold partsTo; rw [List.take_of_length_le (by simp)]
theorem partsTo_next {fs : List FieldD} {k : Nat} (h : k < fs.length) (p : List Int) : partsTo p fs k ++ [fs[k].fType] = partsTo p fs (k + 1) := by
  unfold partsTo
  rw [List.take_succ_eq_append_getElem (by simpa using h), List.append_assoc]
  simp
theorem partsTo_len {fs : List FieldD} {k : Nat} (p : List Int) : (partsTo p fs k).length ≤ p.length + fs.length := by
  unfold partsTo
  simp
  omega

end Go.Proofs.Ytcekjdikoamjjaa

namespace Go.Proofs.Ytcekjdikoamjjaa
open Go.ChangeShapes Go.WideShapes Go.ChangeAt Go.RowKit

def mPartsD (t : TypeD) : List Int := (if 0 ≤ t.fBase ∧ t.fKind ≠ 6 then [t.fBase] else []) ++ t.fFields.map FieldD.fType
theorem mParts_typeOk {l : List TypeD} {t : TypeD} (h : typeOk l t) : mPartsD t = insideD t := by
  unfold mPartsD insideD partsD
  rcases h.2 with ⟨k, _, ⟨b0, _⟩, f⟩ | ⟨k, _, b, _⟩ | ⟨k, _, _, f⟩
  · rw [if_pos ⟨b0, by omega⟩, if_neg (by omega), if_neg (by omega)]
  · rw [if_neg (show ¬ t.fKind = 6 by omega)]
    rcases b with b | b
    · rw [if_neg (by omega), if_pos b]
    · have hb : 0 ≤ t.fBase := by
        unfold kindZ at b
        split at b
        · rename_i h; exact h.1
        · omega
      rw [if_pos ⟨hb, by omega⟩, if_neg (by omega)]
  · rw [if_pos k, if_neg (by omega), List.eq_nil_of_length_eq_zero f]
    rfl
theorem mParts_base {k : Nat} (hk : k < 3) {t : TypeD} (h : baseLike k t) : mPartsD t = insideD t := by
  obtain ⟨h1, _, h2, h3, _⟩ := h
  unfold mPartsD insideD partsD
  rw [if_neg (by omega), if_neg (by omega), if_pos h2]

end Go.Proofs.Ytcekjdikoamjjaa

namespace Go.Proofs.Ytcekjdikoamjjaa
open Go.ChangeShapes Go.WideShapes Go.ChangeAt Go.RowKit

/-- The numbers of a slice lie at an address. -/
def Nums (w : World) (a : Option Addr) (l : List Int) : Prop := ∀ i (h : i < l.length), ∃ b o, a = some ⟨b, o, none⟩ ∧ b < w.heap.size ∧ w.cell? ⟨b, o + i, none⟩ = some (.int .i64 l[i])
theorem Nums.below {w w' : World} {a : Option Addr} {l : List Int} (h : Nums w a l) (hb : Below w.heap.size w w') : Nums w' a l := fun i hi => by
  obtain ⟨b, o, e, h1, h2⟩ := h i hi
  exact ⟨b, o, e, Nat.lt_of_lt_of_le h1 hb.size, (hb.cell h1).trans h2⟩
theorem OwnInts.nums {w : World} {B : Nat} {v : Value} {l : List Int} (h : OwnInts w B v l) : ∃ a c, v = .slice a l.length c ∧ l.length ≤ c ∧ Nums w a l := by
  rcases h.2 with ⟨rfl, h0⟩ | ⟨g, cap, cur, rfl, hb, hg, hc, hm, hs, ht⟩
  · have : l = [] := List.eq_nil_of_length_eq_zero h0
    subst this
    exact ⟨none, 0, rfl, Nat.le_refl _, fun i hi => absurd hi (by simp)⟩
  · refine ⟨some ⟨g, 0, none⟩, cap, rfl, hc, fun i hi => ⟨g, 0, rfl, (Array.getElem?_eq_some_iff.1 hg).1, ?_⟩⟩
    have := World.ownsRow.cells h (g := g) rfl i (.int .i64 l[i]) (by simp [hi])
    have hadd : (⟨g, 0, none⟩ : Addr).add i = ⟨g, 0 + i, none⟩ := by unfold Addr.add; split <;> simp_all
    rw [← hadd]
    exact this

theorem has_yes {l : List Int} {k : Nat} (h : k < l.length) : decide (l[k] ∈ l) = true := by simp
theorem has_no {l : List Int} {n : Int} (h : ∀ j (hj : j < l.length), l[j] ≠ n) : decide (n ∈ l) = false := by
  refine decide_eq_false (fun hm => ?_)
  obtain ⟨j, hj, e⟩ := List.getElem_of_mem hm
  exact h j hj e

end Go.Proofs.Ytcekjdikoamjjaa

namespace Go.Proofs.Ytcekjdikoamjjaa
open Go.ChangeShapes Go.WideShapes Go.ChangeAt Go.RowKit

theorem add_off (b o i : Nat) : (⟨b, o, none⟩ : Addr).add i = ⟨b, o + i, none⟩ := by unfold Addr.add; split <;> simp_all
theorem grownBy_same (w : World) (row : Option Nat) : w.grownBy w row := ⟨rfl, rfl, rfl, Nat.le_refl _, fun _ _ _ => rfl⟩

theorem OwnInts.made (w : World) {B : Nat} (hB : B ≤ w.heap.size) : OwnInts (w.alloc (.cells #[] 3)) B (.slice (some ⟨w.heap.size, 0, none⟩) 0 0) [] := World.ownsRow_made (base := B) w #[] 0 hB (by decide) (by simp)

end Go.Proofs.Ytcekjdikoamjjaa

namespace Go.Proofs.Ytcekjdikoamjjaa
open Go.ChangeShapes Go.WideShapes Go.ChangeAt Go.RowKit

end Go.Proofs.Ytcekjdikoamjjaa
