
/-
  What is proved: plain facts on scopes: lists of names, params, objects, uses; contracts of slices.Index, slices.Contains on texts and of the model's l4Has; a contract of the program's areUnlikeNames; slices of texts that the call owns: appended to; a contract of the program's copied on texts. No condition beside what each theorem states.
-/
import Derived.Test.YtcekjdikoamjjaaToScope
import Derived.Test.YtcekjdikoamjjaaName
import Derived.Test.YtcekjdikoamjjaaBMap
import Derived.Test.YtcekjdikoamjjaaStrs
import Derived.Test.YtcekjdikoamjjaaSFields
import Derived.Maps.AppendAt
import Derived.Laws.CopyOwn
import Derived.Deep.MidRow
namespace Go.Proofs.Ytcekjdikoamjjaa
open Go.ChangeShapes Go.WideShapes Go.ChangeAt Go.RowKit

/-- Names, none of them twice, up to place k. -/
def namesTo (l : List ByteArray) (k : Nat) : Prop := (∀ i (hi : i < l.length), i < k → nameP l[i]) ∧ ∀ i j (hi : i < l.length) (hj : j < l.length), i < j → j < k → l[i] ≠ l[j]
def namesOk (l : List ByteArray) : Prop := namesTo l l.length
open Classical in
noncomputable def namesB (l : List ByteArray) : Bool := decide (namesOk l)
theorem namesB_true {l : List ByteArray} (h : namesOk l) : namesB l = true := by unfold namesB; simpa using h
theorem namesB_false {l : List ByteArray} (h : ¬ namesOk l) : namesB l = false := by unfold namesB; simpa using h
theorem names_zero {l : List ByteArray} : namesTo l 0 := ⟨fun _ _ h => absurd h (by omega), fun _ _ _ _ _ h => absurd h (by omega)⟩
theorem names_bad {l : List ByteArray} {k : Nat} (hk : k < l.length) (h : ¬ nameP l[k]) : ¬ namesOk l := fun g => h (g.1 k hk hk)
theorem names_twice {l : List ByteArray} {i k : Nat} (hik : i < k) (hk : k < l.length) (he : l[i]'(by omega) = l[k]) : ¬ namesOk l := fun g => g.2 i k (by omega) hk hik hk he
theorem names_next {l : List ByteArray} {k : Nat} (hk : k < l.length) (h : namesTo l k) (h1 : nameP l[k]) (h2 : ∀ i (hi : i < l.length), i < k → l[i] ≠ l[k]) : namesTo l (k + 1) :=
  ⟨fun i hi hik => by
    by_cases e : i = k
    · subst e; exact h1
    · exact h.1 i hi (by omega), fun i j hi hj hij hjk => by
    by_cases e : j = k
    · subst e; exact h2 i hi hij
    · exact h.2 i j hi hj hij (by omega)⟩
theorem namesOk_left {l m : List ByteArray} (h : namesOk (l ++ m)) : namesOk l :=
  ⟨fun i hi _ => by have := h.1 i (by simp; omega) (by simp; omega); rwa [List.getElem_append_left hi] at this, fun i j hi hj hij _ => by
    have := h.2 i j (by simp; omega) (by simp; omega) hij (by simp; omega)
    rwa [List.getElem_append_left hi, List.getElem_append_left hj] at this⟩

/-- What a table of names tells behind k names. -/
def toldN (l : List ByteArray) (k : Nat) (f : Lit → Bool) : Prop := ∀ s : ByteArray, f (.string s.data.toList) = true ↔ ∃ i, ∃ h : i < l.length, i < k ∧ l[i] = s
theorem toldN_zero {l : List ByteArray} : toldN l 0 (fun _ => false) := fun s => ⟨fun h => (by cases h), fun ⟨_, _, h, _⟩ => absurd h (by omega)⟩
theorem toldN_put {l : List ByteArray} {k : Nat} {f : Lit → Bool} (hk : k < l.length) (h : toldN l k f) : toldN l (k + 1) (updB f (.string l[k].data.toList) true) := fun s => by
  by_cases e : s = l[k]
  · subst e
    rw [updB_same]
    exact ⟨fun _ => ⟨k, hk, by omega, rfl⟩, fun _ => rfl⟩
  · rw [updB_other _ _ (fun e2 => e (by injection e2 with e2; exact ByteArray.ext (Array.ext' e2))), h s]
    constructor
    · rintro ⟨i, hi, h1, h2⟩
      exact ⟨i, hi, by omega, h2⟩
    · rintro ⟨i, hi, h1, h2⟩
      refine ⟨i, hi, ?_, h2⟩
      by_cases e3 : i = k
      · subst e3; exact absurd h2.symm e
      · omega

/-- Params as the language has them. -/
def parTyped (n : Nat) (p : ParamD) : Prop := 0 ≤ p.fType ∧ p.fType < (n : Int)
def paramsOk (n : Nat) (ps : List ParamD) : Prop := ps.length ≤ 4 ∧ (∀ p ∈ ps, parTyped n p) ∧ namesOk (ps.map ParamD.fName)
open Classical in
noncomputable def paramsB (n : Nat) (ps : List ParamD) : Bool := decide (paramsOk n ps)
theorem paramsB_true {n : Nat} {ps : List ParamD} (h : paramsOk n ps) : paramsB n ps = true := by unfold paramsB; simpa using h
theorem paramsB_false {n : Nat} {ps : List ParamD} (h : ¬ paramsOk n ps) : paramsB n ps = false := by unfold paramsB; simpa using h
def typedTo (n : Nat) (ps : List ParamD) (k : Nat) : Prop := ∀ i (hi : i < ps.length), i < k → parTyped n ps[i]
theorem typed_zero {n : Nat} {ps : List ParamD} : typedTo n ps 0 := fun _ _ h => absurd h (by omega)
theorem typed_next {n : Nat} {ps : List ParamD} {k : Nat} (hk : k < ps.length) (h : typedTo n ps k) (h1 : parTyped n ps[k]) : typedTo n ps (k + 1) := fun i hi hik => by
  by_cases e : i = k
  · subst e; exact h1
  · exact h i hi (by omega)
theorem typed_all {n : Nat} {ps : List ParamD} (h : typedTo n ps ps.length) : ∀ p ∈ ps, parTyped n p := fun p hp => by
  obtain ⟨i, hi, rfl⟩ := List.getElem_of_mem hp
  exact h i hi hi
theorem params_untyped {n : Nat} {ps : List ParamD} {k : Nat} (hk : k < ps.length) (h : ¬ parTyped n ps[k]) : ¬ paramsOk n ps := fun g => h (g.2.1 _ (List.getElem_mem hk))

/-- An object as the language has it, but for its name. -/
def objOk (n : Nat) (o : ObjectD) : Prop := (0 ≤ o.fMark ∧ o.fMark ≤ 2) ∧ (o.fMark = 2 → o.fKind = 3) ∧
  ((o.fKind = 1 ∧ o.fType = 0 ∧ (-1000000000 ≤ o.fValue ∧ o.fValue ≤ 1000000000) ∧ o.fParams.length = 0) ∨
   ((o.fKind = 2 ∨ o.fKind = 3) ∧ (0 ≤ o.fType ∧ o.fType < (n : Int)) ∧ o.fValue = 0 ∧ o.fParams.length = 0) ∨
   (o.fKind = 4 ∧ (-1 ≤ o.fType ∧ o.fType < (n : Int)) ∧ o.fValue = 0 ∧ paramsOk n o.fParams))
open Classical in
noncomputable def objB (n : Nat) (o : ObjectD) : Bool := decide (objOk n o)
theorem objB_true {n : Nat} {o : ObjectD} (h : objOk n o) : objB n o = true := by unfold objB; simpa using h
theorem objB_false {n : Nat} {o : ObjectD} (h : ¬ objOk n o) : objB n o = false := by unfold objB; simpa using h
theorem objB_iff {n : Nat} {o : ObjectD} : objB n o = true ↔ objOk n o := by unfold objB; simp
/-- All of an object. -/
def objAll (n : Nat) (o : ObjectD) : Prop := nameP o.fName ∧ objOk n o
open Classical in
noncomputable def objAllB (n : Nat) (o : ObjectD) : Bool := decide (objAll n o)
theorem objAllB_true {n : Nat} {o : ObjectD} (h : objAll n o) : objAllB n o = true := by unfold objAllB; simpa using h
theorem objAllB_false {n : Nat} {o : ObjectD} (h : ¬ objAll n o) : objAllB n o = false := by unfold objAllB; simpa using h
theorem objAllB_iff {n : Nat} {o : ObjectD} : objAllB n o = true ↔ objAll n o := by unfold objAllB; simp

/-- Uses, up to place k. -/
def useOk (im : List ByteArray) (u : UseD) : Prop := nameP u.fName ∧ u.fMod ∈ im
def usesTo (im : List ByteArray) (us : List UseD) (k : Nat) : Prop := (∀ i (hi : i < us.length), i < k → useOk im us[i]) ∧ ∀ i j (hi : i < us.length) (hj : j < us.length), i < j → j < k → us[i] ≠ us[j]
def usesOk (im : List ByteArray) (us : List UseD) : Prop := usesTo im us us.length
theorem uses_zero {im : List ByteArray} {us : List UseD} : usesTo im us 0 := ⟨fun _ _ h => absurd h (by omega), fun _ _ _ _ _ h => absurd h (by omega)⟩
theorem uses_bad {im : List ByteArray} {us : List UseD} {k : Nat} (hk : k < us.length) (h : ¬ useOk im us[k]) : ¬ usesOk im us := fun g => h (g.1 k hk hk)
theorem uses_twice {im : List ByteArray} {us : List UseD} {i k : Nat} (hik : i < k) (hk : k < us.length) (he : us[i]'(by omega) = us[k]) : ¬ usesOk im us := fun g => g.2 i k (by omega) hk hik hk he
theorem uses_next {im : List ByteArray} {us : List UseD} {k : Nat} (hk : k < us.length) (h : usesTo im us k) (h1 : useOk im us[k]) (h2 : ∀ i (hi : i < us.length), i < k → us[i] ≠ us[k]) : usesTo im us (k + 1) :=
  ⟨fun i hi hik => by
    by_cases e : i = k
    · subst e; exact h1
    · exact h.1 i hi (by omega), fun i j hi hj hij hjk => by
    by_cases e : j = k
    · subst e; exact h2 i hi hij
    · exact h.2 i j hi hj hij (by omega)⟩

/-- A scope as the language has it. -/
def importsOk (s : ScopeD) : Prop := s.fImports.length ≤ 4 ∧ namesOk s.fImports ∧ s.fName ∉ s.fImports
def objectsOk (s : ScopeD) : Prop := s.fObjects.length ≤ 16 ∧ (∀ o ∈ s.fObjects, objOk s.fTypes.length o) ∧ namesOk (s.fImports ++ s.fObjects.map ObjectD.fName)
def usedOk (s : ScopeD) : Prop := s.fUses.length ≤ 40 ∧ usesOk s.fImports s.fUses
open Classical in
noncomputable def importsB (s : ScopeD) : Bool := decide (importsOk s)
open Classical in
noncomputable def objectsB (s : ScopeD) : Bool := decide (objectsOk s)
open Classical in
noncomputable def usedB (s : ScopeD) : Bool := decide (usedOk s)
theorem importsB_true {s : ScopeD} (h : importsOk s) : importsB s = true := by unfold importsB; simpa using h
theorem importsB_false {s : ScopeD} (h : ¬ importsOk s) : importsB s = false := by unfold importsB; simpa using h
theorem objectsB_true {s : ScopeD} (h : objectsOk s) : objectsB s = true := by unfold objectsB; simpa using h
theorem objectsB_false {s : ScopeD} (h : ¬ objectsOk s) : objectsB s = false := by unfold objectsB; simpa using h
theorem usedB_true {s : ScopeD} (h : usedOk s) : usedB s = true := by unfold usedB; simpa using h
theorem usedB_false {s : ScopeD} (h : ¬ usedOk s) : usedB s = false := by unfold usedB; simpa using h
/-- The size of what a table may hold, one by one. -/
def ScopeD.mod (s : ScopeD) : Prop := s.fName.size ≤ maxLen ∧ (∀ x ∈ s.fImports, x.size ≤ maxLen) ∧ (∀ t ∈ s.fTypes, t.wt ≤ 1048576) ∧ (∀ o ∈ s.fObjects, o.fName.size ≤ maxLen ∧ o.fParams.length ≤ 1048576 ∧ ∀ p ∈ o.fParams, p.fName.size ≤ maxLen) ∧ ∀ u ∈ s.fUses, u.fMod.size ≤ maxLen ∧ u.fName.size ≤ maxLen
end Go.Proofs.Ytcekjdikoamjjaa

namespace Go.Proofs.Ytcekjdikoamjjaa
open Go.ChangeShapes Go.WideShapes Go.ChangeAt Go.RowKit

open Classical in
/-- Whether a text is in a list. -/
noncomputable def hasB (l : List ByteArray) (s : ByteArray) : Bool := decide (s ∈ l)
theorem hasB_true {l : List ByteArray} {s : ByteArray} (h : s ∈ l) : hasB l s = true := by unfold hasB; simpa using h
theorem hasB_false {l : List ByteArray} {s : ByteArray} (h : s ∉ l) : hasB l s = false := by unfold hasB; simpa using h
theorem hasB_iff {l : List ByteArray} {s : ByteArray} : hasB l s = true ↔ s ∈ l := by unfold hasB; simp
theorem str_here {Q : Nat → Prop} {w : World} {a : Option Addr} {l : List ByteArray} {k : Nat} (hr : Rows strS Q w a l) (hk : k < l.length) : ∃ b o, a = some ⟨b, o, none⟩ ∧ b < w.heap.size ∧ w.cell? ⟨b, o + k, none⟩ = some (.string l[k]) := str_at hr hk (Below.refl _ _)

end Go.Proofs.Ytcekjdikoamjjaa

namespace Go.Proofs.Ytcekjdikoamjjaa
open Go.ChangeShapes Go.WideShapes Go.ChangeAt Go.RowKit Go.WideMaps

end Go.Proofs.Ytcekjdikoamjjaa

namespace Go.Proofs.Ytcekjdikoamjjaa
open Go.ChangeShapes Go.WideShapes Go.ChangeAt Go.RowKit

def OwnStrs (w : World) (B : Nat) (v : Value) (l : List ByteArray) : Prop := w.ownsRow B 9 1 v l.length (l.map Value.string)
theorem OwnStrs.nil {w : World} {B : Nat} : OwnStrs w B (.slice none 0 0) [] := World.ownsRow_nil _ _ _ _
theorem OwnStrs.alloc {w : World} {B : Nat} {v : Value} {l : List ByteArray} (h : OwnStrs w B v l) (o : Obj) : OwnStrs (w.alloc o) B v l := World.ownsRow.alloc h o
theorem OwnStrs.lower {w : World} {B B' : Nat} {v : Value} {l : List ByteArray} (h : OwnStrs w B v l) (hB : B' ≤ B) : OwnStrs w B' v l :=
  ⟨h.1, h.2.imp id (fun ⟨g, cap, cur, h1, h2, h3⟩ => ⟨g, cap, cur, h1, Nat.le_trans hB h2, h3⟩)⟩
theorem OwnStrs.below {w w' : World} {B : Nat} {v : Value} {l : List ByteArray} (h : OwnStrs w B v l) (hb : Below w.heap.size w w') : OwnStrs w' B v l :=
  ⟨h.1, h.2.imp id (fun ⟨g, cap, cur, h1, h2, h3, h4⟩ => ⟨g, cap, cur, h1, h2, (hb.block g (Array.getElem?_eq_some_iff.1 h3).1).trans h3, h4⟩)⟩
theorem OwnStrs.rows {w : World} {B : Nat} {v : Value} {l : List ByteArray} (h : OwnStrs w B v l) : ∃ a c, v = .slice a l.length c ∧ l.length ≤ c ∧ c ≤ maxLen ∧ OwnC w B a (l.map Value.string) ∧ Rows strS (fun b => B ≤ b) w a l := by
  obtain ⟨a, c, rfl, h1, h2, h3⟩ := ownC_of_row h
  refine ⟨a, c, rfl, h1, h2, h3, fun i hi => ?_⟩
  rcases h3 with h3 | ⟨g, t, cur, rfl, hb, hx, hs, hc⟩
  · have : l = [] := by simpa using h3
    subst this
    exact absurd hi (by simp)
  · have hn : strS.n = 1 := rfl
    refine ⟨g, 0, [.string l[i]], rfl, hb, hx.lt, fun j hj => ?_, rfl⟩
    obtain rfl : j = 0 := by omega
    rw [hn, Nat.mul_one, Nat.zero_add, Nat.add_zero, hx.cell, hc i (by simpa using hi)]
    simp [hi]

/-- append of one text to a row of texts that the call owns. -/
theorem wpList_pushStr {ops : Array Oper} {rest : List Oper} {o : Oper} {a : Act} {Q : Exit → Act → World → Prop} (hgd : o.guard = none) (s x : Operand)
    (ho : o.op = .call { callee := .builtin .append, args := #[s, x], argTypes := #[29, 29] })
    (B : Nat) (w : World) (v : Value) (l : List ByteArray) (hs : a.eval s = v) (hown : OwnStrs w B v l) (u : ByteArray) (g : Nat) (hx : a.eval x = .slice (some ⟨g, 0, none⟩) 1 1) (hg : g = w.heap.size)
    (h63 : l.length + 1 ≤ 1048577 + 1048576) (hbase : B ≤ w.heap.size)
    (h : ∀ v' w', OwnStrs w' B v' (l ++ [u]) → w.grownBy w' v.ownBlock → (∀ k, v.ownBlock = some k → B ≤ k ∧ k < w.heap.size) → wpList Try.prog ops Q rest (a.put o.dst v') w') : wpList Try.prog ops Q (o :: rest) a (w.alloc (.cells #[.string u] 9)) := by
  subst hg
  obtain ⟨i0, hi, hz0, hz1, hz2⟩ := info_parts infoStr
  exact wpList_append_own _ hgd s x 29 ho B 9 i0 (.string ByteArray.empty) 1 16 Try.underlying29 hi hz0 hz1 hz2 rfl (by decide) v l.length (l.map Value.string) hs (hown.alloc _) ⟨w.heap.size, 0, none⟩ 1 1 [.string u] hx rfl (cell_one_new _ _ _)
    (fun y hy => by rw [List.mem_singleton.1 hy]; rfl) (by unfold maxLen; omega) (by omega) (by simp; omega) (fun v' w' h1 h2 _ => h v' w' (by unfold OwnStrs; simpa using h1) ⟨h2.os, h2.tape, h2.output, by have := h2.size; simp at this; omega, fun k hk hn => (h2.block k (by simp; omega) hn).trans (Below.heap_alloc w _ k hk)⟩ (World.ownsRow.lt hown))

theorem sizeStr1 : (Try.prog.info? 9).map (·.size) = some 1 := by kernel_rfl
theorem addr_add (b o j : Nat) : (⟨b, o, none⟩ : Addr).add j = ⟨b, o + j, none⟩ := by unfold Addr.add; split <;> simp_all

end Go.Proofs.Ytcekjdikoamjjaa
