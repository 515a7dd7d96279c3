
/-
  What is proved: a contract of the model's l4Good. No condition beside what the theorem states.
-/
import Derived.Test.YtcekjdikoamjjaaSObject
import Derived.Test.YtcekjdikoamjjaaSameLists
namespace Go.Proofs.Ytcekjdikoamjjaa
open Go.ChangeShapes Go.WideShapes Go.ChangeAt Go.RowKit

theorem rows_take {T : Type} {S : Shape T} {Q : Nat → Prop} {w : World} {a : Option Addr} {l : List T} (h : Rows S Q w a l) (k : Nat) : Rows S Q w a (l.take k) := fun i hi => by
  have hi2 : i < l.length := by simp at hi; omega
  obtain ⟨b, o, cs, e, h1, h2, h3, h4⟩ := h i hi2
  exact ⟨b, o, cs, e, h1, h2, h3, by rw [List.getElem_take]; exact h4⟩

/-- Imports up to place k. -/
def impTo (s : ScopeD) (k : Nat) : Prop := namesTo s.fImports k ∧ ∀ i (hi : i < s.fImports.length), i < k → s.fImports[i] ≠ s.fName
def impOk (s : ScopeD) (k : Nat) (x : ByteArray) : Prop := nameP x ∧ x ≠ s.fName ∧ x ∉ s.fImports.take k
theorem impTo_zero {s : ScopeD} : impTo s 0 := ⟨names_zero, fun _ _ h => absurd h (by omega)⟩
theorem impTo_next {s : ScopeD} {k : Nat} (hk : k < s.fImports.length) (h : impTo s k) (h1 : impOk s k s.fImports[k]) : impTo s (k + 1) :=
  ⟨names_next hk h.1 h1.1 (fun i hi hik e => h1.2.2 (by
    rw [← e, List.mem_iff_getElem]
    exact ⟨i, by simp; omega, by rw [List.getElem_take]⟩)), fun i hi hik => by
    by_cases e : i = k
    · subst e; exact h1.2.1
    · exact h.2 i hi (by omega)⟩
theorem scope_imp_bad {s : ScopeD} {k : Nat} (hk : k < s.fImports.length) (h : ¬ impOk s k s.fImports[k]) : scopeB s = false := scopeB_false fun g => h
  ⟨g.2.1.2.1.1 k hk hk, fun e => g.2.1.2.2 (by rw [← e]; exact List.getElem_mem hk), fun hm => by
    obtain ⟨i, hi, e⟩ := List.getElem_of_mem hm
    rw [List.getElem_take] at e
    have hi2 : i < k ∧ i < s.fImports.length := by simp at hi; omega
    exact g.2.1.2.1.2 i k hi2.2 hk hi2.1 hk e⟩
theorem app_at {l m : List ByteArray} {k : Nat} (hk : k < m.length) : (l ++ m)[l.length + k]'(by simp; omega) = m[k] := by
  rw [List.getElem_append_right (by omega)]
  simp
/-- Objects up to place k. -/
def objsOk (s : ScopeD) (o : ObjectD) : Prop := objAll s.fTypes.length o ∧ o.fName ∉ s.fImports
def objsTo (s : ScopeD) (k : Nat) : Prop := (∀ i (hi : i < s.fObjects.length), i < k → objsOk s s.fObjects[i]) ∧ ∀ i j (hi : i < s.fObjects.length) (hj : j < s.fObjects.length), i < j → j < k → s.fObjects[i].fName ≠ s.fObjects[j].fName
theorem objsTo_zero {s : ScopeD} : objsTo s 0 := ⟨fun _ _ h => absurd h (by omega), fun _ _ _ _ _ h => absurd h (by omega)⟩
theorem objsTo_next {s : ScopeD} {k : Nat} (hk : k < s.fObjects.length) (h : objsTo s k) (h1 : objsOk s s.fObjects[k]) (h2 : ∀ i (hi : i < s.fObjects.length), i < k → s.fObjects[i].fName ≠ s.fObjects[k].fName) : objsTo s (k + 1) :=
  ⟨fun i hi hik => by
    by_cases e : i = k
    · subst e; exact h1
    · exact h.1 i hi (by omega), fun i j hi hj hij hjk => by
    by_cases e : j = k
    · subst e; exact h2 i hi hij
    · exact h.2 i j hi hj hij (by omega)⟩
theorem scope_obj_at {s : ScopeD} (g : scopeP s) {k : Nat} (hk : k < s.fObjects.length) : objsOk s s.fObjects[k] := by
  have hn : k < (s.fObjects.map ObjectD.fName).length := by simpa using hk
  have hl : s.fImports.length + k < (s.fImports ++ s.fObjects.map ObjectD.fName).length := by simp; omega
  have e := app_at (l := s.fImports) hn
  refine ⟨⟨?_, g.2.2.2.1.2.1 _ (List.getElem_mem hk)⟩, fun hm => ?_⟩
  · have h := g.2.2.2.1.2.2.1 (s.fImports.length + k) hl hl
    rw [e] at h
    simpa using h
  · obtain ⟨i, hi, ei⟩ := List.getElem_of_mem hm
    have h := g.2.2.2.1.2.2.2 i (s.fImports.length + k) (by simp; omega) hl (by omega) hl
    rw [e, List.getElem_append_left hi] at h
    exact h (by simpa using ei)
theorem scope_obj_bad {s : ScopeD} {k : Nat} (hk : k < s.fObjects.length) (h : ¬ objsOk s s.fObjects[k]) : scopeB s = false := scopeB_false fun g => h (scope_obj_at g hk)
theorem scope_obj_twice {s : ScopeD} {i k : Nat} (hik : i < k) (hk : k < s.fObjects.length) (he : (s.fObjects[i]'(by omega)).fName = s.fObjects[k].fName) : scopeB s = false := scopeB_false fun g => by
  have hn : k < (s.fObjects.map ObjectD.fName).length := by simpa using hk
  have hn' : i < (s.fObjects.map ObjectD.fName).length := by simp; omega
  have h := g.2.2.2.1.2.2.2 (s.fImports.length + i) (s.fImports.length + k) (by simp; omega) (by simp; omega) (by omega) (by simp; omega)
  rw [app_at hn, app_at hn'] at h
  exact h (by simpa using he)
theorem at_next {os : List ObjectD} {nm : ByteArray} {r : Int} {k : Nat} (h : isAt os nm r) (hk : k < os.length) (he : os[k].fName = nm) : (r < k → ∃ i, ∃ hi : i < os.length, i < k ∧ os[i].fName = nm) ∧ (¬ r < k → ∀ i (hi : i < os.length), i < k → os[i].fName ≠ nm) := by
  rcases h with ⟨rfl, h⟩ | ⟨j, rfl, hj, hje, h⟩
  · exact absurd he (h k hk)
  · exact ⟨fun g => ⟨j, hj, by omega, hje⟩, fun g i hi hik => h i hi (by omega)⟩
theorem scope_use_bad {s : ScopeD} {k : Nat} (hk : k < s.fUses.length) (h : ¬ useOk s.fImports s.fUses[k]) : scopeB s = false := scopeB_false fun g => uses_bad hk h g.2.2.2.2.2
theorem scope_use_twice {s : ScopeD} {i k : Nat} (hik : i < k) (hk : k < s.fUses.length) (he : s.fUses[i]'(by omega) = s.fUses[k]) : scopeB s = false := scopeB_false fun g => uses_twice hik hk he g.2.2.2.2.2
theorem scope_of {s : ScopeD} (h1 : impTo s s.fImports.length) (h2 : objsTo s s.fObjects.length) (h3 : usesTo s.fImports s.fUses s.fUses.length) (h4 : nameP s.fName) (h5 : good s.fTypes) (h6 : s.fImports.length ≤ 4) (h7 : s.fObjects.length ≤ 16) (h8 : s.fUses.length ≤ 40) : scopeP s := by
  refine ⟨h4, ⟨h6, h1.1, fun hm => ?_⟩, h5, ⟨h7, fun o ho => ?_, fun i hi _ => ?_, fun i j hi hj hij _ => ?_⟩, h8, h3⟩
  · obtain ⟨i, hi, e⟩ := List.getElem_of_mem hm
    exact h1.2 i hi hi e
  · obtain ⟨i, hi, rfl⟩ := List.getElem_of_mem ho
    exact (h2.1 i hi hi).1.2
  · by_cases hl : i < s.fImports.length
    · rw [List.getElem_append_left hl]
      exact h1.1.1 i hl hl
    · rw [List.getElem_append_right (by omega)]
      have hi2 : i - s.fImports.length < s.fObjects.length := by simp at hi; omega
      simpa using (h2.1 _ hi2 hi2).1.1
  · have hj2 : j < s.fImports.length + s.fObjects.length := by simpa using hj
    by_cases hl : i < s.fImports.length
    · rw [List.getElem_append_left hl]
      by_cases hl' : j < s.fImports.length
      · rw [List.getElem_append_left hl']
        exact h1.1.2 i j hl hl' hij hl'
      · rw [List.getElem_append_right (by omega)]
        have hjo : j - s.fImports.length < s.fObjects.length := by omega
        intro e
        refine (h2.1 _ hjo hjo).2 ?_
        rw [List.getElem_map] at e
        rw [← e]
        exact List.getElem_mem hl
    · rw [List.getElem_append_right (by omega), List.getElem_append_right (by omega)]
      simpa using h2.2 (i - s.fImports.length) (j - s.fImports.length) (by omega) (by omega) (by omega) (by omega)

theorem object_at2 {w w' : World} {a : Option Addr} {l : List ObjectD} {k : Nat} (hr : Rows objectS Any w a l) (hk : k < l.length) (hb : Below w.heap.size w w') : ∃ b o pa pc, a = some ⟨b, o, none⟩ ∧ b < w.heap.size ∧ l[k].fParams.length ≤ pc ∧ Rows paramS Any w pa l[k].fParams ∧ w'.cell? ⟨b, o + k * 6, none⟩ = some (.string l[k].fName) ∧ w'.cell? ⟨b, o + k * 6 + 1, none⟩ = some (.int .i64 l[k].fKind) ∧ w'.cell? ⟨b, o + k * 6 + 2, none⟩ = some (.int .i64 l[k].fMark) ∧ w'.cell? ⟨b, o + k * 6 + 3, none⟩ = some (.int .i64 l[k].fType) ∧ w'.cell? ⟨b, o + k * 6 + 4, none⟩ = some (.int .i64 l[k].fValue) ∧ w'.cell? ⟨b, o + k * 6 + 5, none⟩ = some (.slice pa l[k].fParams.length pc) := by
  obtain ⟨b, o, cs, rfl, _, hb1, hc1, hat⟩ := hr k hk
  obtain ⟨pa, pc, rfl, hpr, hpc⟩ := hat
  have e0 := (hb.cell (p := ⟨b, o + k * 6 + 0, none⟩) hb1).trans (hc1 0 (by decide))
  have e1 := (hb.cell (p := ⟨b, o + k * 6 + 1, none⟩) hb1).trans (hc1 1 (by decide))
  have e2 := (hb.cell (p := ⟨b, o + k * 6 + 2, none⟩) hb1).trans (hc1 2 (by decide))
  have e3 := (hb.cell (p := ⟨b, o + k * 6 + 3, none⟩) hb1).trans (hc1 3 (by decide))
  have e4 := (hb.cell (p := ⟨b, o + k * 6 + 4, none⟩) hb1).trans (hc1 4 (by decide))
  have e5 := (hb.cell (p := ⟨b, o + k * 6 + 5, none⟩) hb1).trans (hc1 5 (by decide))
  simp at e0 e1 e2 e3 e4 e5
  exact ⟨b, o, pa, pc, rfl, hb1, hpc, hpr, e0, e1, e2, e3, e4, e5⟩

end Go.Proofs.Ytcekjdikoamjjaa
