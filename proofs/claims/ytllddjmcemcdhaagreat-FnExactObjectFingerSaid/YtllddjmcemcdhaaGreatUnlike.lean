
/-
  What is proved: plain facts on scopes: lists of names, params, objects, uses; contracts of slices.Index, slices.Contains on texts and of the model's l4Has; a contract of the program's areUnlikeNames; slices of texts that the call owns: appended to; a contract of the program's copied on texts. No condition beside what each theorem states.
-/
import Derived.Test.YtllddjmcemcdhaaGreatToScope
import Derived.Test.YtllddjmcemcdhaaGreatName
import Derived.Test.YtllddjmcemcdhaaGreatBMap
import Derived.Test.YtllddjmcemcdhaaGreatStrs
import Derived.Test.YtllddjmcemcdhaaGreatSFields
import Derived.Maps.AppendAt
import Derived.Laws.CopyOwn
import Derived.Deep.MidRow
namespace Go.Proofs.YtllddjmcemcdhaaGreat
open Go.ChangeShapes Go.WideShapes Go.ChangeAt Go.RowKit

/-- Names, none of them twice, up to place k. -/
def namesTo (l : List ByteArray) (k : Nat) : Prop := (∀ i (hi : i < l.length), i < k → nameP l[i]) ∧ ∀ i j (hi : i < l.length) (hj : j < l.length), i < j → j < k → l[i] ≠ l[j]
def namesOk (l : List ByteArray) : Prop := namesTo l l.length
open Classical in
noncomputable def namesB (l : List ByteArray) : Bool := decide (namesOk l)
theorem namesB_true {l : List ByteArray} (h : namesOk l) : namesB l = true := by unfold namesB; simpa using h
theorem namesB_false {l : List ByteArray} (h : ¬ namesOk l) : namesB l = false := by unfold namesB; simpa using h
theorem names_zero {l : List ByteArray} : namesTo l 0 := ⟨fun _ _ h => absurd h (by omega), fun _ _ _ _ _ h => absurd h (by omega)⟩
theorem names_bad {l : List ByteArray} {k : Nat} (hk : k < l.length) (h : ¬ nameP l[k]) : ¬ namesOk l := fun g => h (g.1 k hk hk)
theorem names_twice {l : List ByteArray} {i k : Nat} (hik : i < k) (hk : k < l.length) (he : l[i]'(by omega) = l[k]) : ¬ namesOk l := fun g => g.2 i k (by omega) hk hik hk he
theorem names_next {l : List ByteArray} {k : Nat} (hk : k < l.length) (h : namesTo l k) (h1 : nameP l[k]) (h2 : ∀ i (hi : i < l.length), i < k → l[i] ≠ l[k]) : namesTo l (k + 1) :=
  ⟨fun i hi hik => by
    by_cases e : i = k
    · subst e; exact h1
    · exact h.1 i hi (by omega), fun i j hi hj hij hjk => by
    by_cases e : j = k
    · subst e; exact h2 i hi hij
    · exact h.2 i j hi hj hij (by omega)⟩
theorem namesOk_left {l m : List ByteArray} (h : namesOk (l ++ m)) : namesOk l :=
  ⟨fun i hi _ => by have := h.1 i (by simp; omega) (by simp; omega); rwa [List.getElem_append_left hi] at this, fun i j hi hj hij _ => by
    have := h.2 i j (by simp; omega) (by simp; omega) hij (by simp; omega)
    rwa [List.getElem_append_left hi, List.getElem_append_left hj] at this⟩

/-- What a table of names tells behind k names. -/
def toldN (l : List ByteArray) (k : Nat) (f : Lit → Bool) : Prop := ∀ s : ByteArray, f (.string s.data.toList) = true ↔ ∃ i, ∃ h : i < l.length, i < k ∧ l[i] = s
theorem toldN_zero {l : List ByteArray} : toldN l 0 (fun _ => false) := fun s => ⟨fun h => (by cases h), fun ⟨_, _, h, _⟩ => absurd h (by omega)⟩
theorem toldN_put {l : List ByteArray} {k : Nat} {f : Lit → Bool} (hk : k < l.length) (h : toldN l k f) : toldN l (k + 1) (updB f (.string l[k].data.toList) true) := fun s => by
  by_cases e : s = l[k]
  · subst e
    rw [updB_same]
    exact ⟨fun _ => ⟨k, hk, by omega, rfl⟩, fun _ => rfl⟩
  · rw [updB_other _ _ (fun e2 => e (by injection e2 with e2; exact ByteArray.ext (Array.ext' e2))), h s]
    constructor
    · rintro ⟨i, hi, h1, h2⟩
      exact ⟨i, hi, by omega, h2⟩
    · rintro ⟨i, hi, h1, h2⟩
      refine ⟨i, hi, ?_, h2⟩
      by_cases e3 : i = k
      · subst e3; exact absurd h2.symm e
      · omega

/-- Params as the language has them. -/
def parTyped (n : Nat) (p : ParamD) : Prop := 0 ≤ p.fType ∧ p.fType < (n : Int)
def paramsOk (n : Nat) (ps : List ParamD) : Prop := ps.length ≤ 4 ∧ (∀ p ∈ ps, parTyped n p) ∧ namesOk (ps.map ParamD.fName)
open Classical in
noncomputable def paramsB (n : Nat) (ps : List ParamD) : Bool := decide (paramsOk n ps)
theorem paramsB_true {n : Nat} {ps : List ParamD} (h : paramsOk n ps) : paramsB n ps = true := by unfold paramsB; simpa using h
theorem paramsB_false {n : Nat} {ps : List ParamD} (h : ¬ paramsOk n ps) : paramsB n ps = false := by unfold paramsB; simpa using h
def typedTo (n : Nat) (ps : List ParamD) (k : Nat) : Prop := ∀ i (hi : i < ps.length), i < k → parTyped n ps[i]
theorem typed_zero {n : Nat} {ps : List ParamD} : typedTo n ps 0 := fun _ _ h => absurd h (by omega)
theorem typed_next {n : Nat} {ps : List ParamD} {k : Nat} (hk : k < ps.length) (h : typedTo n ps k) (h1 : parTyped n ps[k]) : typedTo n ps (k + 1) := fun i hi hik => by
  by_cases e : i = k
  · subst e; exact h1
  · exact h i hi (by omega)
theorem typed_all {n : Nat} {ps : List ParamD} (h : typedTo n ps ps.length) : ∀ p ∈ ps, parTyped n p := fun p hp => by
  obtain ⟨i, hi, rfl⟩ := List.getElem_of_mem hp
  exact h i hi hi
theorem params_untyped {n : Nat} {ps : List ParamD} {k : Nat} (hk : k < ps.length) (h : ¬ parTyped n ps[k]) : ¬ paramsOk n ps := fun g => h (g.2.1 _ (List.getElem_mem hk))

/-- An object as the language has it, but for its name. -/
def objOk (n : Nat) (o : ObjectD) : Prop := (0 ≤ o.fMark ∧ o.fMark ≤ 2) ∧ (o.fMark = 2 → o.fKind = 3) ∧
  ((o.fKind = 1 ∧ o.fType = 0 ∧ (-1000000000 ≤ o.fValue ∧ o.fValue ≤ 1000000000) ∧ o.fParams.length = 0) ∨
   ((o.fKind = 2 ∨ o.fKind = 3) ∧ (0 ≤ o.fType ∧ o.fType < (n : Int)) ∧ o.fValue = 0 ∧ o.fParams.length = 0) ∨
   (o.fKind = 4 ∧ (-1 ≤ o.fType ∧ o.fType < (n : Int)) ∧ o.fValue = 0 ∧ paramsOk n o.fParams))
open Classical in
noncomputable def objB (n : Nat) (o : ObjectD) : Bool := decide (objOk n o)
theorem objB_true {n : Nat} {o : ObjectD} (h : objOk n o) : objB n o = true := by unfold objB; simpa using h
theorem objB_false {n : Nat} {o : ObjectD} (h : ¬ objOk n o) : objB n o = false := by unfold objB; simpa using h
theorem objB_iff {n : Nat} {o : ObjectD} : objB n o = true ↔ objOk n o := by unfold objB; simp
/-- All of an object. -/
def objAll (n : Nat) (o : ObjectD) : Prop := nameP o.fName ∧ objOk n o
open Classical in
noncomputable def objAllB (n : Nat) (o : ObjectD) : Bool := decide (objAll n o)
theorem objAllB_true {n : Nat} {o : ObjectD} (h : objAll n o) : objAllB n o = true := by unfold objAllB; simpa using h
theorem objAllB_false {n : Nat} {o : ObjectD} (h : ¬ objAll n o) : objAllB n o = false := by unfold objAllB; simpa using h
theorem objAllB_iff {n : Nat} {o : ObjectD} : objAllB n o = true ↔ objAll n o := by unfold objAllB; simp

/-- Uses, up to place k. -/
def useOk (im : List ByteArray) (u : UseD) : Prop := nameP u.fName ∧ u.fMod ∈ im
def usesTo (im : List ByteArray) (us : List UseD) (k : Nat) : Prop := (∀ i (hi : i < us.length), i < k → useOk im us[i]) ∧ ∀ i j (hi : i < us.length) (hj : j < us.length), i < j → j < k → us[i] ≠ us[j]
def usesOk (im : List ByteArray) (us : List UseD) : Prop := usesTo im us us.length
theorem uses_zero {im : List ByteArray} {us : List UseD} : usesTo im us 0 := ⟨fun _ _ h => absurd h (by omega), fun _ _ _ _ _ h => absurd h (by omega)⟩
theorem uses_bad {im : List ByteArray} {us : List UseD} {k : Nat} (hk : k < us.length) (h : ¬ useOk im us[k]) : ¬ usesOk im us := fun g => h (g.1 k hk hk)
theorem uses_twice {im : List ByteArray} {us : List UseD} {i k : Nat} (hik : i < k) (hk : k < us.length) (he : us[i]'(by omega) = us[k]) : ¬ usesOk im us := fun g => g.2 i k (by omega) hk hik hk he
theorem uses_next {im : List ByteArray} {us : List UseD} {k : Nat} (hk : k < us.length) (h : usesTo im us k) (h1 : useOk im us[k]) (h2 : ∀ i (hi : i < us.length), i < k → us[i] ≠ us[k]) : usesTo im us (k + 1) :=
  ⟨fun i hi hik => by
    by_cases e : i = k
    · subst e; exact h1
    · exact h.1 i hi (by omega), fun i j hi hj hij hjk => by
    by_cases e : j = k
    · subst e; exact h2 i hi hij
    · exact h.2 i j hi hj hij (by omega)⟩

/-- A scope as the language has it. -/
def importsOk (s : ScopeD) : Prop := s.fImports.length ≤ 4 ∧ namesOk s.fImports ∧ s.fName ∉ s.fImports
def objectsOk (s : ScopeD) : Prop := s.fObjects.length ≤ 16 ∧ (∀ o ∈ s.fObjects, objOk s.fTypes.length o) ∧ namesOk (s.fImports ++ s.fObjects.map ObjectD.fName)
def usedOk (s : ScopeD) : Prop := s.fUses.length ≤ 40 ∧ usesOk s.fImports s.fUses
open Classical in
noncomputable def importsB (s : ScopeD) : Bool := decide (importsOk s)
open Classical in
noncomputable def objectsB (s : ScopeD) : Bool := decide (objectsOk s)
open Classical in
noncomputable def usedB (s : ScopeD) : Bool := decide (usedOk s)
theorem importsB_true {s : ScopeD} (h : importsOk s) : importsB s = true := by unfold importsB; simpa using h
theorem importsB_false {s : ScopeD} (h : ¬ importsOk s) : importsB s = false := by unfold importsB; simpa using h
theorem objectsB_true {s : ScopeD} (h : objectsOk s) : objectsB s = true := by unfold objectsB; simpa using h
theorem objectsB_false {s : ScopeD} (h : ¬ objectsOk s) : objectsB s = false := by unfold objectsB; simpa using h
theorem usedB_true {s : ScopeD} (h : usedOk s) : usedB s = true := by unfold usedB; simpa using h
theorem usedB_false {s : ScopeD} (h : ¬ usedOk s) : usedB s = false := by unfold usedB; simpa using h
/-- The size of what a table may hold, one by one. -/
def ScopeD.mod (s : ScopeD) : Prop := s.fName.size ≤ maxLen ∧ (∀ x ∈ s.fImports, x.size ≤ maxLen) ∧ (∀ t ∈ s.fTypes, t.wt ≤ 1048576) ∧ (∀ o ∈ s.fObjects, o.fName.size ≤ maxLen ∧ o.fParams.length ≤ 1048576 ∧ ∀ p ∈ o.fParams, p.fName.size ≤ maxLen) ∧ ∀ u ∈ s.fUses, u.fMod.size ≤ maxLen ∧ u.fName.size ≤ maxLen
end Go.Proofs.YtllddjmcemcdhaaGreat

namespace Go.Proofs.YtllddjmcemcdhaaGreat
open Go.ChangeShapes Go.WideShapes Go.ChangeAt Go.RowKit

open Classical in
/-- Whether a text is in a list. -/
noncomputable def hasB (l : List ByteArray) (s : ByteArray) : Bool := decide (s ∈ l)
theorem hasB_true {l : List ByteArray} {s : ByteArray} (h : s ∈ l) : hasB l s = true := by unfold hasB; simpa using h
theorem hasB_false {l : List ByteArray} {s : ByteArray} (h : s ∉ l) : hasB l s = false := by unfold hasB; simpa using h
theorem hasB_iff {l : List ByteArray} {s : ByteArray} : hasB l s = true ↔ s ∈ l := by unfold hasB; simp
theorem str_here {Q : Nat → Prop} {w : World} {a : Option Addr} {l : List ByteArray} {k : Nat} (hr : Rows strS Q w a l) (hk : k < l.length) : ∃ b o, a = some ⟨b, o, none⟩ ∧ b < w.heap.size ∧ w.cell? ⟨b, o + k, none⟩ = some (.string l[k]) := str_at hr hk (Below.refl _ _)

set_option maxHeartbeats 2000000 in
theorem iIndexStr (a : Option Addr) (c : Nat) (l : List ByteArray) (s : ByteArray) (w : World) (hl : l.length ≤ 1048576) (hr : Rows strS Any w a l) :
    Calls Tryz.prog 97 #[.slice a l.length c, .string s] w fun e w' => ∃ r : Int, e = .returned (.int .i64 r) ∧ (0 ≤ r ↔ s ∈ l) ∧ w = w' := by
  have Hr := Lib.hid hr
  clear hr
  go_enter Tryz.func97, Tryz.ntmps97
  go_wp2_with fail
  go_loop [8] (fun i => ∃ k : Nat, i = .int .i64 k ∧ k ≤ l.length ∧ ∀ j (hj : j < l.length), j < k → l[j] ≠ s) (fun i => l.length - (intOf i).toNat)
  case atStart => exact ⟨0, rfl, by omega, fun j _ hj => absurd hj (by omega)⟩
  case round =>
    obtain ⟨k, rfl, hk, hno⟩ := hrel
    have Hno := Lib.hid hno
    clear hno
    by_cases hlt : k < l.length
    · obtain ⟨b, o, rfl, _, e0⟩ := str_here Hr.out hlt
      by_cases he : l[k] = s
      · have Hy := Lib.hid (show s ∈ l from he ▸ List.getElem_mem hlt)
        have h2 := bytes_same s l[k] true (by simp [he])
        clear he
        generalize l[k] = z at *
        go_wp2_with fail
        go_ret
        exact ⟨_, rfl, ⟨fun _ => Hy.out, fun _ => by omega⟩, rfl⟩
      · have Hno' := Lib.hid (show ∀ j (hj : j < l.length), j < k + 1 → l[j] ≠ s from fun j hj hjk => by
          by_cases e : j = k
          · subst e; exact he
          · exact Hno.out j hj (by omega))
        have h2 := bytes_same s l[k] false (by simp [Ne.symm he])
        clear he
        generalize l[k] = z at *
        go_wp2_with fail
        go_round
        case rel => exact ⟨k + 1, by go_num, by omega, Hno'.out⟩
        case measure => simp [intOf]; omega
    · have Hn := Lib.hid (show s ∉ l from fun hm => by
        obtain ⟨j, hj, e⟩ := List.getElem_of_mem hm
        exact Hno.out j hj (by omega) e)
      go_wp2_with fail
      go_ret
      exact ⟨_, rfl, ⟨fun h => absurd h (by omega), fun h => absurd h Hn.out⟩, rfl⟩

theorem iContainsStr (a : Option Addr) (c : Nat) (l : List ByteArray) (s : ByteArray) (w : World) (hl : l.length ≤ 1048576) (hr : Rows strS Any w a l) :
    Calls Tryz.prog 74 #[.slice a l.length c, .string s] w fun e w' => e = .returned (.bool (hasB l s)) ∧ w = w' := by
  go_enter Tryz.func74, Tryz.ntmps74
  go_wp2_with fail
  refine (iIndexStr a c l s _ hl hr).mono ?_
  rintro e w1 ⟨r, rfl, hiff, rfl⟩
  have H := Lib.hid (show hasB l s = decide (0 ≤ r) by rw [Bool.eq_iff_iff, hasB_iff, decide_eq_true_eq, hiff])
  clear hiff
  go_wp2_with fail
  go_ret
  exact ⟨by rw [H.out]; rfl, rfl⟩

set_option maxHeartbeats 2000000 in
theorem sl4Has (a : Option Addr) (c : Nat) (l : List ByteArray) (s : ByteArray) (w : World) (hl : l.length ≤ 1048576) (hr : Rows strS Any w a l) :
    Calls Tryz.prog 40 #[.slice a l.length c, .string s] w fun e w' => e = .returned (.bool (hasB l s)) ∧ w = w' := by
  have Hr := Lib.hid hr
  clear hr
  generalize hd : hasB l s = d
  have Hd := Lib.hid hd
  clear hd
  go_enter Tryz.func40, Tryz.ntmps40
  go_wp2_with fail
  go_loop [9] (fun i => ∃ k : Nat, i = .int .i64 k ∧ k ≤ l.length ∧ ∀ j (hj : j < l.length), j < k → l[j] ≠ s) (fun i => l.length - (intOf i).toNat)
  case atStart => exact ⟨0, rfl, by omega, fun j _ hj => absurd hj (by omega)⟩
  case round =>
    obtain ⟨k, rfl, hk, hno⟩ := hrel
    have Hno := Lib.hid hno
    clear hno
    by_cases hlt : k < l.length
    · obtain ⟨b, o, rfl, _, e0⟩ := str_here Hr.out hlt
      by_cases he : l[k] = s
      · have Hy := Lib.hid (show d = true by rw [← Hd.out]; exact hasB_true (he ▸ List.getElem_mem hlt))
        have h2 := bytes_same l[k] s true (by simp [he])
        clear he
        generalize l[k] = z at *
        go_wp2_with fail
        go_ret
        exact ⟨by rw [Hy.out]; rfl, rfl⟩
      · have Hno' := Lib.hid (show ∀ j (hj : j < l.length), j < k + 1 → l[j] ≠ s from fun j hj hjk => by
          by_cases e : j = k
          · subst e; exact he
          · exact Hno.out j hj (by omega))
        have h2 := bytes_same l[k] s false (by simp [he])
        clear he
        generalize l[k] = z at *
        go_wp2_with fail
        go_round
        case rel => exact ⟨k + 1, by go_num, by omega, Hno'.out⟩
        case measure => simp [intOf]; omega
    · have Hn := Lib.hid (show d = false by
        rw [← Hd.out]
        refine hasB_false (fun hm => ?_)
        obtain ⟨j, hj, e⟩ := List.getElem_of_mem hm
        exact Hno.out j hj (by omega) e)
      go_wp2_with fail
      go_ret
      exact ⟨by rw [Hn.out]; rfl, rfl⟩
end Go.Proofs.YtllddjmcemcdhaaGreat

namespace Go.Proofs.YtllddjmcemcdhaaGreat
open Go.ChangeShapes Go.WideShapes Go.ChangeAt Go.RowKit Go.WideMaps

set_option maxRecDepth 100000 in
set_option maxHeartbeats 4000000 in
theorem iAreUnlike (a : Option Addr) (c : Nat) (l : List ByteArray) (w : World) (hl : l.length ≤ 2097152) (hs : ∀ x ∈ l, x.size ≤ maxLen) (hr : Rows strS Any w a l) :
    Calls Tryz.prog 73 #[.slice a l.length c] w fun e w' => e = .returned (.bool (namesB l)) ∧ Below w.heap.size w w' := by
  have Hr := Lib.hid hr
  have Hs := Lib.hid hs
  clear hr hs
  have hmm := @run_makeMap Tryz.prog
  go_enter Tryz.func73, Tryz.ntmps73
  go_wp2_with fail
  go_loopw [9] (fun i wr => ∃ (k : Nat) (f : Lit → Bool), i = .int .i64 k ∧ k ≤ l.length ∧ namesTo l k ∧ BMap 9 wr w.heap.size k f ∧ toldN l k f ∧ Below w.heap.size w wr) (fun i _ => l.length - (intOf i).toNat)
  case atStart => exact ⟨0, _, rfl, by omega, names_zero, BMap.made w, toldN_zero, (Below.refl _ _).alloc (Nat.le_refl _) _⟩
  case round =>
    clear hmm
    obtain ⟨k, f, rfl, hk, hto, hmap, htold, hbel⟩ := hrel
    have Hto := Lib.hid hto
    have Hmap := Lib.hid hmap
    have Htold := Lib.hid htold
    clear hto hmap htold
    by_cases hlt : k < l.length
    · obtain ⟨b, o, rfl, hb1, e0⟩ := str_at Hr.out hlt hbel
      have Hbel := Lib.hid hbel
      have Hbad := Lib.hid (fun h => namesB_false (names_bad hlt h))
      have Htw := Lib.hid (fun i (hik : i < k) h => namesB_false (names_twice hik hlt h))
      have Hnx := Lib.hid (names_next hlt Hto.out)
      have Hput := Lib.hid (toldN_put hlt Htold.out)
      have hsz := Hs.out l[k] (List.getElem_mem hlt)
      clear hbel
      generalize l[k] = t at *
      have hkey := keyOf_string_mk Tryz.underlying9 hsz
      have hlook := Hmap.out.look strKeyed Tryz.underlying154 hkey
      obtain ⟨wp, hputr, hmap2, hgrow⟩ := Hmap.out.put strKeyed Tryz.underlying154 (by unfold maxLen; omega) hkey true
      have Hmap2 := Lib.hid hmap2
      have Hgrow := Lib.hid hgrow
      clear hmap2 hgrow hkey
      by_cases hnn : nameP t
      · have hq := nameB_true hnn
        have Hd := Lib.hid (Htold.out t)
        generalize hfv : f (.string t.data.toList) = v at hlook
        have Hfv := Lib.hid hfv
        have Hnn := Lib.hid hnn
        clear hfv hnn
        cases v
        · have Hn := Lib.hid (Hnx.out Hnn.out (fun i hi hik h => by
            have h2 := Hd.out.2 ⟨i, hi, hik, h⟩
            rw [Hfv.out] at h2
            cases h2))
          go_wp2_with (go_at_call 50; refine (iGoodName _ _ hsz).mono ?_; rintro e w' ⟨rfl, rfl⟩)
          exact ⟨⟨k + 1, _, by congr 1, by omega, Hn.out, Hmap2.out, Hput.out, Hbel.out.grown Hgrow.out Hbel.out.size (fun q hq => by injection hq with hq; omega)⟩, by simp [intOf]; omega⟩
        · obtain ⟨i, hi, hik, h1⟩ := Hd.out.1 Hfv.out
          have Hv := Lib.hid (Htw.out i hik h1)
          go_wp2_with (go_at_call 50; refine (iGoodName _ _ hsz).mono ?_; rintro e w' ⟨rfl, rfl⟩)
          go_ret
          exact ⟨by rw [Hv.out]; rfl, Hbel.out⟩
      · have hq := nameB_false hnn
        have Hv := Lib.hid (Hbad.out hnn)
        clear hnn
        go_wp2_with (go_at_call 50; refine (iGoodName _ _ hsz).mono ?_; rintro e w' ⟨rfl, rfl⟩)
        go_ret
        exact ⟨by rw [Hv.out]; rfl, Hbel.out⟩
    · have Hv := Lib.hid (namesB_true (show namesTo l l.length by rw [← show k = l.length by omega]; exact Hto.out))
      have Hbel := Lib.hid hbel
      clear hbel
      go_wp2_with fail
      go_ret
      exact ⟨by rw [Hv.out]; rfl, Hbel.out⟩
end Go.Proofs.YtllddjmcemcdhaaGreat

namespace Go.Proofs.YtllddjmcemcdhaaGreat
open Go.ChangeShapes Go.WideShapes Go.ChangeAt Go.RowKit

def OwnStrs (w : World) (B : Nat) (v : Value) (l : List ByteArray) : Prop := w.ownsRow B 9 1 v l.length (l.map Value.string)
theorem OwnStrs.nil {w : World} {B : Nat} : OwnStrs w B (.slice none 0 0) [] := World.ownsRow_nil _ _ _ _
theorem OwnStrs.alloc {w : World} {B : Nat} {v : Value} {l : List ByteArray} (h : OwnStrs w B v l) (o : Obj) : OwnStrs (w.alloc o) B v l := World.ownsRow.alloc h o
theorem OwnStrs.lower {w : World} {B B' : Nat} {v : Value} {l : List ByteArray} (h : OwnStrs w B v l) (hB : B' ≤ B) : OwnStrs w B' v l :=
  ⟨h.1, h.2.imp id (fun ⟨g, cap, cur, h1, h2, h3⟩ => ⟨g, cap, cur, h1, Nat.le_trans hB h2, h3⟩)⟩
theorem OwnStrs.below {w w' : World} {B : Nat} {v : Value} {l : List ByteArray} (h : OwnStrs w B v l) (hb : Below w.heap.size w w') : OwnStrs w' B v l :=
  ⟨h.1, h.2.imp id (fun ⟨g, cap, cur, h1, h2, h3, h4⟩ => ⟨g, cap, cur, h1, h2, (hb.block g (Array.getElem?_eq_some_iff.1 h3).1).trans h3, h4⟩)⟩
theorem OwnStrs.rows {w : World} {B : Nat} {v : Value} {l : List ByteArray} (h : OwnStrs w B v l) : ∃ a c, v = .slice a l.length c ∧ l.length ≤ c ∧ c ≤ maxLen ∧ OwnC w B a (l.map Value.string) ∧ Rows strS (fun b => B ≤ b) w a l := by
  obtain ⟨a, c, rfl, h1, h2, h3⟩ := ownC_of_row h
  refine ⟨a, c, rfl, h1, h2, h3, fun i hi => ?_⟩
  rcases h3 with h3 | ⟨g, t, cur, rfl, hb, hx, hs, hc⟩
  · have : l = [] := by simpa using h3
    subst this
    exact absurd hi (by simp)
  · have hn : strS.n = 1 := rfl
    refine ⟨g, 0, [.string l[i]], rfl, hb, hx.lt, fun j hj => ?_, rfl⟩
    obtain rfl : j = 0 := by omega
    rw [hn, Nat.mul_one, Nat.zero_add, Nat.add_zero, hx.cell, hc i (by simpa using hi)]
    simp [hi]

/-- append of one text to a row of texts that the call owns. -/
theorem wpList_pushStr {ops : Array Oper} {rest : List Oper} {o : Oper} {a : Act} {Q : Exit → Act → World → Prop} (hgd : o.guard = none) (s x : Operand)
    (ho : o.op = .call { callee := .builtin .append, args := #[s, x], argTypes := #[22, 22] })
    (B : Nat) (w : World) (v : Value) (l : List ByteArray) (hs : a.eval s = v) (hown : OwnStrs w B v l) (u : ByteArray) (g : Nat) (hx : a.eval x = .slice (some ⟨g, 0, none⟩) 1 1) (hg : g = w.heap.size)
    (h63 : l.length + 1 ≤ 1048577 + 1048576) (hbase : B ≤ w.heap.size)
    (h : ∀ v' w', OwnStrs w' B v' (l ++ [u]) → w.grownBy w' v.ownBlock → (∀ k, v.ownBlock = some k → B ≤ k ∧ k < w.heap.size) → wpList Tryz.prog ops Q rest (a.put o.dst v') w') : wpList Tryz.prog ops Q (o :: rest) a (w.alloc (.cells #[.string u] 9)) := by
  subst hg
  obtain ⟨i0, hi, hz0, hz1, hz2⟩ := info_parts infoStr
  exact wpList_append_own _ hgd s x 22 ho B 9 i0 (.string ByteArray.empty) 1 16 Tryz.underlying22 hi hz0 hz1 hz2 rfl (by decide) v l.length (l.map Value.string) hs (hown.alloc _) ⟨w.heap.size, 0, none⟩ 1 1 [.string u] hx rfl (cell_one_new _ _ _)
    (fun y hy => by rw [List.mem_singleton.1 hy]; rfl) (by unfold maxLen; omega) (by omega) (by simp; omega) (fun v' w' h1 h2 _ => h v' w' (by unfold OwnStrs; simpa using h1) ⟨h2.os, h2.tape, h2.output, by have := h2.size; simp at this; omega, fun k hk hn => (h2.block k (by simp; omega) hn).trans (Below.heap_alloc w _ k hk)⟩ (World.ownsRow.lt hown))

theorem sizeStr1 : (Tryz.prog.info? 9).map (·.size) = some 1 := by kernel_rfl
theorem addr_add (b o j : Nat) : (⟨b, o, none⟩ : Addr).add j = ⟨b, o + j, none⟩ := by unfold Addr.add; split <;> simp_all

set_option maxRecDepth 100000 in
set_option maxHeartbeats 4000000 in
theorem iCopiedStr (a : Option Addr) (c : Nat) (l : List ByteArray) (w : World) (hl : l.length ≤ 1048576) (hr : Rows strS Any w a l) :
    Calls Tryz.prog 77 #[.slice a l.length c] w fun e w' => ∃ v, e = .returned v ∧ OwnStrs w' w.heap.size v l ∧ Below w.heap.size w w' := by
  have km := fun W => makeStrs l.length W hl
  have Hr := Lib.hid hr
  clear hr
  by_cases h0 : l.length = 0
  · obtain rfl : l = [] := List.eq_nil_of_length_eq_zero h0
    go_enter Tryz.func77, Tryz.ntmps77
    go_wp2_with fail
    go_ret
    exact ⟨_, rfl, OwnStrs.nil, Below.refl _ _⟩
  · have h1 : ¬ (l.length : Int) = 0 := by omega
    obtain ⟨b, o, rfl, _, _⟩ := str_here Hr.out (show 0 < l.length by omega)
    have Hsrc := Lib.hid (show ∀ j v, (l.map Value.string)[j]? = some v → (w.alloc (.cells (strsA (List.replicate l.length ByteArray.empty)) 9)).cell? ((⟨b, o, none⟩ : Addr).add j) = some v from fun j v hv => by
      rw [List.getElem?_map] at hv
      by_cases hj : j < l.length
      · obtain ⟨b', o', e, hb', e2⟩ := str_here Hr.out hj
        cases e
        rw [List.getElem?_eq_getElem hj] at hv
        cases hv
        rw [addr_add, ((Below.refl w.heap.size w).alloc (Nat.le_refl _) _).cell (p := ⟨b, o + j, none⟩) hb']
        exact e2
      · rw [List.getElem?_eq_none (by omega)] at hv
        cases hv)
    have Hx := Lib.hid (Box.new w 9 (strsA (List.replicate l.length ByteArray.empty)))
    have B0 := Lib.hid ((Below.refl w.heap.size w).alloc (Nat.le_refl _) (.cells (strsA (List.replicate l.length ByteArray.empty)) 9))
    obtain ⟨cur, hlen, Hx2, Hfin⟩ : ∃ cur : List Value, cur.length = l.length ∧ Hid ((w.alloc (.cells (strsA (List.replicate l.length ByteArray.empty)) 9)).heap[w.heap.size]? = some (.cells cur.toArray 9 (0, 0))) ∧ Hid (splice cur 0 (l.map Value.string) = l.map Value.string) := by
      refine ⟨List.replicate l.length (Value.string ByteArray.empty), by simp, Lib.hid ?_, Lib.hid ?_⟩
      · rw [show (List.replicate l.length (Value.string ByteArray.empty)).toArray = strsA (List.replicate l.length ByteArray.empty) by simp [strsA]]
        exact Hx.out
      · unfold splice
        rw [List.drop_of_length_le (by simp)]
        simp
    obtain ⟨w2, hrun, hg2, hb2⟩ : ∃ w2, (Builtin.copy_ #[22, 22] 3 #[.slice (some ⟨w.heap.size, 0, none⟩) l.length l.length, .slice (some ⟨b, o, none⟩) l.length c]).run Tryz.prog (w.alloc (.cells (strsA (List.replicate l.length ByteArray.empty)) 9)) = .ok (.int .i64 (l.length : Int)) w2 ∧ Hid (w2.heap[w.heap.size]? = some (.cells (splice cur 0 (l.map Value.string)).toArray 9 (0, 0))) ∧ Hid (Below w.heap.size w w2) := by
      have h := run_copy_row (P := Tryz.prog) (w.alloc (.cells (strsA (List.replicate l.length ByteArray.empty)) 9)) 22 22 3 9 w.heap.size 0 l.length l.length ⟨b, o, none⟩ l.length c cur.toArray 9 (l.map Value.string) Tryz.underlying22 sizeStr1 Hx2.out (by simp) Hsrc.out (by simp; omega) (fun y hy => by obtain ⟨z, _, rfl⟩ := List.mem_map.1 hy; rfl)
      rw [List.length_map] at h
      exact ⟨_, h, Lib.hid (by simpa [splice] using setRow_heap _ w.heap.size _ _ 9 _ Hx2.out), Lib.hid (below_setRow B0.out (Nat.le_refl _) _)⟩
    go_enter Tryz.func77, Tryz.ntmps77
    go_wp2_with fail
    go_ret
    refine ⟨_, rfl, ⟨by simp, .inr ⟨w.heap.size, l.length, _, rfl, Nat.le_refl _, hg2.out, Nat.le_refl _, by unfold maxLen; omega, ?_, ?_⟩⟩, hb2.out⟩
    · rw [Hfin.out]; simp
    · rw [Hfin.out]
      show List.take (l.length * 1) (l.map Value.string) = l.map Value.string
      exact List.take_of_length_le (by simp)
end Go.Proofs.YtllddjmcemcdhaaGreat
