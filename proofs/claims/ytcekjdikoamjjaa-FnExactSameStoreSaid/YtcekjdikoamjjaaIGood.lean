
/-
  What is proved: what shaped types say of their parts; contracts of the program's comesBack and GoodTypes. No condition beside what each theorem states.
-/
import Derived.Test.YtcekjdikoamjjaaISpread
import Derived.Test.YtcekjdikoamjjaaIShaped
namespace Go.Proofs.Ytcekjdikoamjjaa
open Go.ChangeShapes Go.WideShapes Go.ChangeAt Go.RowKit

theorem kindZ_range {l : List TypeD} {x : Int} (h : kindZ l x ≠ 0) : 0 ≤ x ∧ x < (l.length : Int) := by
  unfold kindZ at h
  split at h
  · rename_i g; omega
  · exact absurd rfl h

theorem near.three {l : List TypeD} (h : near l) : 3 ≤ l.length := h.1.1
theorem near.most {l : List TypeD} (h : near l) : l.length ≤ 24 := h.2.1
theorem near.ok {l : List TypeD} (h : near l) (n : Nat) (hn : n < l.length) : (n < 3 ∧ baseLike n l[n]) ∨ (3 ≤ n ∧ typeOk l l[n]) := by
  by_cases h3 : n < 3
  · exact .inl ⟨h3, h.1.2 n hn h3⟩
  · exact .inr ⟨by omega, h.2.2.1 n hn (by omega) hn⟩
theorem near.six {l : List TypeD} (h : near l) : ∀ t ∈ l, t.fFields.length ≤ 6 := fun t ht => by
  obtain ⟨n, hn, rfl⟩ := List.getElem_of_mem ht
  rcases h.ok n hn with ⟨_, hb⟩ | ⟨_, ho⟩
  · have := hb.2.2.2.1; omega
  · rcases ho.2 with ⟨_, _, _, f⟩ | ⟨_, _, _, f⟩ | ⟨_, _, _, f⟩
    · omega
    · exact f.1
    · omega
theorem near.parts {l : List TypeD} (h : near l) : StepsIn l partsD := fun n hn x hx => by
  unfold partsD at hx
  rw [List.mem_append] at hx
  rcases h.ok n hn with ⟨_, _, _, hb, hf, _⟩ | ⟨_, ho⟩
  · rw [if_pos hb, List.eq_nil_of_length_eq_zero hf] at hx
    simp at hx
  · rcases ho.2 with ⟨_, _, hb, f⟩ | ⟨_, _, hb, f⟩ | ⟨_, _, hb, f⟩
    · rw [List.eq_nil_of_length_eq_zero f, if_neg (by omega)] at hx
      simp at hx
      rw [hx]; exact hb
    · rcases hx with hx | hx
      · split at hx
        · simp at hx
        · rw [List.mem_singleton.1 hx]
          rcases hb with hb | hb
          · contradiction
          · exact kindZ_range (by omega)
      · obtain ⟨fd, hfd, rfl⟩ := List.mem_map.1 hx
        obtain ⟨i, hi, rfl⟩ := List.getElem_of_mem hfd
        exact (f.2.1 i hi hi).2.2
    · rw [List.eq_nil_of_length_eq_zero f] at hx
      rcases hx with hx | hx
      · split at hx
        · simp at hx
        · rw [List.mem_singleton.1 hx]
          exact kindZ_range (by omega)
      · simp at hx
theorem near.inside {l : List TypeD} (h : near l) : StepsIn l insideD := fun n hn x hx => by
  unfold insideD at hx
  split at hx
  · simp at hx
  · exact h.parts n hn x hx

/-- A type that lies within itself. -/
def roundP (l : List TypeD) (n : Nat) : Prop := ∃ h : n < l.length, Reach l insideD (insideD l[n]) n
open Classical in
noncomputable def roundB (l : List TypeD) (n : Nat) : Bool := decide (roundP l n)
theorem roundB_true {l : List TypeD} {n : Nat} (h : roundP l n) : roundB l n = true := by unfold roundB; simpa using h
theorem roundB_false {l : List TypeD} {n : Nat} (h : ¬ roundP l n) : roundB l n = false := by unfold roundB; simpa using h
def good (l : List TypeD) : Prop := near l ∧ ∀ n, n < l.length → ¬ roundP l n
open Classical in
noncomputable def goodB (l : List TypeD) : Bool := decide (good l)
theorem goodB_true {l : List TypeD} (h : good l) : goodB l = true := by unfold goodB; simpa using h
theorem goodB_false {l : List TypeD} (h : ¬ good l) : goodB l = false := by unfold goodB; simpa using h

/-- The cells of a type, in any world that keeps them. -/
theorem type_cells {w w' : World} {a : Option Addr} {l : List TypeD} {n : Nat} (hr : Rows typeS Any w a l) (hn : n < l.length) (hb : Below w.heap.size w w') :
    ∃ b o a3 c3, a = some ⟨b, o, none⟩ ∧ b < w.heap.size ∧ w'.cell? ⟨b, o + n * 6, none⟩ = some (.int .i64 l[n].fKind) ∧ w'.cell? ⟨b, o + n * 6 + 1, none⟩ = some (.int .i64 l[n].fLong) ∧ w'.cell? ⟨b, o + n * 6 + 2, none⟩ = some (.int .i64 l[n].fBase) ∧
      w'.cell? ⟨b, o + n * 6 + 3, none⟩ = some (.slice a3 l[n].fFields.length c3) ∧ w'.cell? ⟨b, o + n * 6 + 4, none⟩ = some (.string l[n].fOwner) ∧ w'.cell? ⟨b, o + n * 6 + 5, none⟩ = some (.string l[n].fName) ∧ Rows fieldS Any w' a3 l[n].fFields ∧ l[n].fFields.length ≤ c3 := by
  obtain ⟨b, o, cs, rfl, _, hb1, hc1, hat⟩ := hr n hn
  obtain ⟨a3, c3, rfl, hrf, hfc⟩ := hat
  have e0 := (hb.cell (p := ⟨b, o + n * 6 + 0, none⟩) hb1).trans (hc1 0 (by decide))
  have e1 := (hb.cell (p := ⟨b, o + n * 6 + 1, none⟩) hb1).trans (hc1 1 (by decide))
  have e2 := (hb.cell (p := ⟨b, o + n * 6 + 2, none⟩) hb1).trans (hc1 2 (by decide))
  have e3 := (hb.cell (p := ⟨b, o + n * 6 + 3, none⟩) hb1).trans (hc1 3 (by decide))
  have e4 := (hb.cell (p := ⟨b, o + n * 6 + 4, none⟩) hb1).trans (hc1 4 (by decide))
  have e5 := (hb.cell (p := ⟨b, o + n * 6 + 5, none⟩) hb1).trans (hc1 5 (by decide))
  simp at e0 e1 e2 e3 e4 e5
  exact ⟨b, o, a3, c3, rfl, hb1, e0, e1, e2, e3, e4, e5, hrf.below hb, hfc⟩

end Go.Proofs.Ytcekjdikoamjjaa
