
/-
  What is proved: a contract of the program's areParams; a contract of the program's isObject; contracts of the program's areImports and areUses; contracts of the program's areObjects and GoodScope. No condition beside what each theorem states.
-/
import Derived.Test.YtcekjdikoamjjaaUnlike
import Derived.Test.YtcekjdikoamjjaaIFields
import Derived.Test.YtcekjdikoamjjaaIGood
namespace Go.Proofs.Ytcekjdikoamjjaa
open Go.ChangeShapes Go.WideShapes Go.ChangeAt Go.RowKit

theorem take_name {ps : List ParamD} {k : Nat} (h : k < ps.length) : (ps.map ParamD.fName).take k ++ [ps[k].fName] = (ps.map ParamD.fName).take (k + 1) := by
  rw [List.take_succ_eq_append_getElem (by simpa using h)]
  simp
end Go.Proofs.Ytcekjdikoamjjaa

namespace Go.Proofs.Ytcekjdikoamjjaa
open Go.ChangeShapes Go.WideShapes Go.ChangeAt Go.RowKit

end Go.Proofs.Ytcekjdikoamjjaa

namespace Go.Proofs.Ytcekjdikoamjjaa
open Go.ChangeShapes Go.WideShapes Go.ChangeAt Go.RowKit Go.WideMaps Go.Maps

theorem scope_box (w : World) (s : ScopeD) (a1 a2 a3 a4 : Option Addr) (c1 c2 c3 c4 : Nat) : Box (w.alloc (.cells (scopeC s a1 a2 a3 a4 c1 c2 c3 c4) 42)) w.heap.size 42 (scopeC s a1 a2 a3 a4 c1 c2 c3 c4) := Box.new w _ _

theorem useKeyed : Keyed Try.prog 64 := Keyed.of_law (deep_law_laid laidOutP (m := 2) (by omega) (of_decide_eq_true (by kernel_rfl)) (by kernel_rfl) (by kernel_rfl))
theorem useKey {a b : ByteArray} (ha : a.size ≤ maxLen) (hb : b.size ≤ maxLen) : keyOf Try.prog 64 (.agg #[.string a, .string b]) = some (fullK a b) :=
  keyOf_two Try.underlying64 rfl rfl rfl rfl (by decide) (by decide) Try.underlying9 (by kernel_rfl) (by kernel_rfl) (by kernel_rfl) (of_decide_eq_true (by kernel_rfl)) ha hb
theorem useK_inj {a b a' b' : ByteArray} (ha : a.size ≤ maxLen) (hb : b.size ≤ maxLen) (ha' : a'.size ≤ maxLen) (hb' : b'.size ≤ maxLen) (h : fullK a b = fullK a' b') : a = a' ∧ b = b' := by
  have h1 := useKey ha hb
  have h2 := useKey ha' hb'
  rw [h] at h1
  have h3 := useKeyed.inj h1 h2
  simpa using h3

/-- What a table of uses tells behind k of them. -/
def toldU (l : List UseD) (k : Nat) (f : Lit → Bool) : Prop := ∀ a b : ByteArray, a.size ≤ maxLen → b.size ≤ maxLen → (f (fullK a b) = true ↔ ∃ i, ∃ h : i < l.length, i < k ∧ l[i] = ⟨a, b⟩)
theorem toldU_zero {l : List UseD} : toldU l 0 (fun _ => false) := fun _ _ _ _ => ⟨fun h => (by cases h), fun ⟨_, _, h, _⟩ => absurd h (by omega)⟩
theorem toldU_put {l : List UseD} {k : Nat} {f : Lit → Bool} (hk : k < l.length) (h1 : l[k].fMod.size ≤ maxLen) (h2 : l[k].fName.size ≤ maxLen) (h : toldU l k f) : toldU l (k + 1) (updB f (fullK l[k].fMod l[k].fName) true) := fun a b ha hb => by
  by_cases e : fullK a b = fullK l[k].fMod l[k].fName
  · rw [e, updB_same]
    obtain ⟨rfl, rfl⟩ := useK_inj ha hb h1 h2 e
    exact ⟨fun _ => ⟨k, hk, by omega, rfl⟩, fun _ => rfl⟩
  · rw [updB_other _ _ e, h a b ha hb]
    constructor
    · rintro ⟨i, hi, g1, g2⟩
      exact ⟨i, hi, by omega, g2⟩
    · rintro ⟨i, hi, g1, g2⟩
      refine ⟨i, hi, ?_, g2⟩
      by_cases e3 : i = k
      · subst e3; rw [g2] at e; exact absurd rfl e
      · omega

theorem use_at {Q : Nat → Prop} {w w' : World} {a : Option Addr} {l : List UseD} {k : Nat} (hr : Rows useS Q w a l) (hk : k < l.length) (hb : Below w.heap.size w w') : ∃ b o, a = some ⟨b, o, none⟩ ∧ b < w.heap.size ∧ w'.cell? ⟨b, o + k * 2, none⟩ = some (.string l[k].fMod) ∧ w'.cell? ⟨b, o + k * 2 + 1, none⟩ = some (.string l[k].fName) := by
  obtain ⟨b, o, cs, rfl, _, hb1, hc1, hat⟩ := hr k hk
  obtain rfl : cs = [.string l[k].fMod, .string l[k].fName] := hat
  have e0 := (hb.cell (p := ⟨b, o + k * 2 + 0, none⟩) hb1).trans (hc1 0 (by decide))
  have e1 := (hb.cell (p := ⟨b, o + k * 2 + 1, none⟩) hb1).trans (hc1 1 (by decide))
  simp at e0 e1
  exact ⟨b, o, rfl, hb1, e0, e1⟩

end Go.Proofs.Ytcekjdikoamjjaa

namespace Go.Proofs.Ytcekjdikoamjjaa
open Go.ChangeShapes Go.WideShapes Go.ChangeAt Go.RowKit

theorem take_oname {os : List ObjectD} {k : Nat} (h : k < os.length) (l : List ByteArray) : l ++ ((os.map ObjectD.fName).take k ++ [os[k].fName]) = l ++ (os.map ObjectD.fName).take (k + 1) := by
  rw [List.take_succ_eq_append_getElem (by simpa using h)]
  simp
def objTo (n : Nat) (os : List ObjectD) (k : Nat) : Prop := ∀ i (hi : i < os.length), i < k → objOk n os[i]
theorem objTo_zero {n : Nat} {os : List ObjectD} : objTo n os 0 := fun _ _ h => absurd h (by omega)
theorem objTo_next {n : Nat} {os : List ObjectD} {k : Nat} (hk : k < os.length) (h : objTo n os k) (h1 : objOk n os[k]) : objTo n os (k + 1) := fun i hi hik => by
  by_cases e : i = k
  · subst e; exact h1
  · exact h i hi (by omega)
theorem objTo_all {n : Nat} {os : List ObjectD} (h : objTo n os os.length) : ∀ o ∈ os, objOk n o := fun o ho => by
  obtain ⟨i, hi, rfl⟩ := List.getElem_of_mem ho
  exact h i hi hi
theorem object_at {w w' : World} {a : Option Addr} {l : List ObjectD} {k : Nat} (hr : Rows objectS Any w a l) (hk : k < l.length) (hb : Below w.heap.size w w') : ∃ b o pa pc, a = some ⟨b, o, none⟩ ∧ b < w.heap.size ∧ Rows paramS Any w pa l[k].fParams ∧ w'.cell? ⟨b, o + k * 6, none⟩ = some (.string l[k].fName) ∧ w'.cell? ⟨b, o + k * 6 + 1, none⟩ = some (.int .i64 l[k].fKind) ∧ w'.cell? ⟨b, o + k * 6 + 2, none⟩ = some (.int .i64 l[k].fMark) ∧ w'.cell? ⟨b, o + k * 6 + 3, none⟩ = some (.int .i64 l[k].fType) ∧ w'.cell? ⟨b, o + k * 6 + 4, none⟩ = some (.int .i64 l[k].fValue) ∧ w'.cell? ⟨b, o + k * 6 + 5, none⟩ = some (.slice pa l[k].fParams.length pc) := by
  obtain ⟨b, o, cs, rfl, _, hb1, hc1, hat⟩ := hr k hk
  obtain ⟨pa, pc, rfl, hpr, _⟩ := hat
  have e0 := (hb.cell (p := ⟨b, o + k * 6 + 0, none⟩) hb1).trans (hc1 0 (by decide))
  have e1 := (hb.cell (p := ⟨b, o + k * 6 + 1, none⟩) hb1).trans (hc1 1 (by decide))
  have e2 := (hb.cell (p := ⟨b, o + k * 6 + 2, none⟩) hb1).trans (hc1 2 (by decide))
  have e3 := (hb.cell (p := ⟨b, o + k * 6 + 3, none⟩) hb1).trans (hc1 3 (by decide))
  have e4 := (hb.cell (p := ⟨b, o + k * 6 + 4, none⟩) hb1).trans (hc1 4 (by decide))
  have e5 := (hb.cell (p := ⟨b, o + k * 6 + 5, none⟩) hb1).trans (hc1 5 (by decide))
  simp at e0 e1 e2 e3 e4 e5
  exact ⟨b, o, pa, pc, rfl, hb1, hpr, e0, e1, e2, e3, e4, e5⟩

/-- The cells of an object. -/
abbrev objC (t : ObjectD) (pa : Option Addr) (pc : Nat) : Array Value := #[.string t.fName, .int .i64 t.fKind, .int .i64 t.fMark, .int .i64 t.fType, .int .i64 t.fValue, .slice pa t.fParams.length pc]

/-- A scope as the language has it. -/
def scopeP (s : ScopeD) : Prop := nameP s.fName ∧ importsOk s ∧ good s.fTypes ∧ objectsOk s ∧ usedOk s
open Classical in
noncomputable def scopeB (s : ScopeD) : Bool := decide (scopeP s)
theorem scopeB_true {s : ScopeD} (h : scopeP s) : scopeB s = true := by unfold scopeB; simpa using h
theorem scopeB_false {s : ScopeD} (h : ¬ scopeP s) : scopeB s = false := by unfold scopeB; simpa using h
/-- What is known of a scope that is handed over. -/
structure ScopeM (w : World) (a1 a2 a3 a4 : Option Addr) (c1 c2 c3 c4 : Nat) (s : ScopeD) : Prop where
  nm : s.fName.size ≤ maxLen
  li : s.fImports.length ≤ 1048576
  lt : s.fTypes.length ≤ 1048576
  lo : s.fObjects.length ≤ 1048576
  lu : s.fUses.length ≤ 1048576
  ki : s.fImports.length ≤ c1 ∧ c1 ≤ maxLen
  kt : s.fTypes.length ≤ c2 ∧ c2 ≤ maxLen
  ko : s.fObjects.length ≤ c3 ∧ c3 ≤ maxLen
  ku : s.fUses.length ≤ c4 ∧ c4 ≤ maxLen
  mi : ∀ x ∈ s.fImports, x.size ≤ maxLen
  mt : ∀ t ∈ s.fTypes, t.mod
  mo : ∀ o ∈ s.fObjects, o.fName.size ≤ maxLen ∧ o.fParams.length ≤ 1048576 ∧ ∀ p ∈ o.fParams, p.fName.size ≤ maxLen
  mu : ∀ u ∈ s.fUses, u.fMod.size ≤ maxLen ∧ u.fName.size ≤ maxLen
  r : ScopeR Any w a1 a2 a3 a4 s
theorem ScopeM.below {w w' : World} {a1 a2 a3 a4 : Option Addr} {c1 c2 c3 c4 : Nat} {s : ScopeD} (h : ScopeM w a1 a2 a3 a4 c1 c2 c3 c4 s) (hb : Below w.heap.size w w') : ScopeM w' a1 a2 a3 a4 c1 c2 c3 c4 s :=
  ⟨h.nm, h.li, h.lt, h.lo, h.lu, h.ki, h.kt, h.ko, h.ku, h.mi, h.mt, h.mo, h.mu, h.r.below hb⟩

end Go.Proofs.Ytcekjdikoamjjaa
