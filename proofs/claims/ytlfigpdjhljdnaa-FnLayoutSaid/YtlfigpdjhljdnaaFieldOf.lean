
/-
  What is proved: contracts of FieldOf, the program's and the model's. No condition beside what each theorem states.
-/
import Derived.Test.YtlfigpdjhljdnaaExtends
namespace Go.Proofs.Ytlfigpdjhljdnaa
open Go.ChangeShapes Go.WideShapes Go.ChangeAt Go.RowKit

def fieldsZ (l : List TypeD) (x : Int) : List FieldD := if h : 0 ≤ x ∧ x.toNat < l.length then l[x.toNat].fFields else []
theorem fieldsZ_in {l : List TypeD} {k : Nat} (h : k < l.length) : fieldsZ l (k : Int) = l[k].fFields := by
  unfold fieldsZ
  rw [dif_pos ⟨by omega, by omega⟩]
  simp
/-- The Type of the first field of a name. -/
def firstF (name : ByteArray) : List FieldD → Option Int
  | [] => none
  | f :: fs => if f.fName = name then some f.fType else firstF name fs
def allF (l : List TypeD) (recs : List Int) : List FieldD := recs.flatMap (fieldsZ l)
theorem allF_cons (l : List TypeD) (x : Int) (recs : List Int) : allF l (x :: recs) = fieldsZ l x ++ allF l recs := by simp [allF]
theorem firstF_drop {name : ByteArray} {fs : List FieldD} {j : Nat} (hj : j < fs.length) (rest : List FieldD) : firstF name (fs.drop j ++ rest) = if fs[j].fName = name then some fs[j].fType else firstF name (fs.drop (j + 1) ++ rest) := by
  rw [List.drop_eq_getElem_cons hj]
  rfl
theorem firstF_mem {name : ByteArray} : ∀ {fs : List FieldD} {z : Int}, firstF name fs = some z → ∃ f ∈ fs, f.fType = z
  | [], _, h => by cases h
  | f :: fs, z, h => by
    unfold firstF at h
    split at h
    · injection h with h; exact ⟨f, by simp, h⟩
    · obtain ⟨g, hg, e⟩ := firstF_mem h; exact ⟨g, by simp [hg], e⟩
theorem field_pos {l : List TypeD} (hne : near l) {recs : List Int} (hk : ∀ y ∈ recs, kindZ l y = 5) {name : ByteArray} {z : Int} (h : firstF name (allF l recs) = some z) : 0 ≤ z := by
  obtain ⟨f, hf, rfl⟩ := firstF_mem h
  obtain ⟨y, hy, hfy⟩ := List.mem_flatMap.1 hf
  obtain ⟨k, rfl, hkl, h5⟩ := kind5 (hk y hy)
  rw [fieldsZ_in hkl] at hfy
  exact (hne.parts k hkl f.fType (by unfold partsD; exact List.mem_append_right _ (List.mem_map_of_mem hfy))).1

def fieldP (l : List TypeD) (x : Int) : Prop := good l ∧ kindZ l x = 5
open Classical in
noncomputable def fieldZ (l : List TypeD) (x : Int) (name : ByteArray) : Option Int := if fieldP l x then firstF name (allF l (chain l x)) else none
theorem fieldZ_out {l : List TypeD} {x : Int} {name : ByteArray} (h : ¬ fieldP l x) : fieldZ l x name = none := by unfold fieldZ; rw [if_neg h]
theorem fieldZ_in {l : List TypeD} {x : Int} {name : ByteArray} (h : fieldP l x) : fieldZ l x name = firstF name (allF l (chain l x)) := by unfold fieldZ; rw [if_pos h]
def intV (o : Option Int) : Value := .int .i64 (o.getD 0)
def isV (o : Option Int) : Value := .bool o.isSome

end Go.Proofs.Ytlfigpdjhljdnaa
