
/-
  What is said: the numbers of types behind rounds, as plain functions; append of several numbers in a region whose order is left open. No condition beside what each theorem states.
-/
import Derived.Test.YtllddjmcemcdhaaGreatTextFin
import Derived.Test.YtllddjmcemcdhaaGreatIGood
import Derived.Deep.RegionHeld3
import Derived.Deep.AppendLies
namespace Go.Proofs.YtllddjmcemcdhaaGreat
open Go.ChangeShapes Go.WideShapes Go.ChangeAt Go.RowKit

def firstZ (t : TypeD) : Int := mixL [t.fKind, t.fLong, textZ t.fOwner, textZ t.fName, (t.fFields.length : Int)]
def fieldZ (ah : List Int) (f : FieldD) : List Int := [textZ f.fName, f.fMark, ah.getD f.fType.toNat 0]
def fieldsZ (ah : List Int) (fs : List FieldD) : List Int := fs.flatMap (fieldZ ah)
def baseRZ (ah : List Int) (t : TypeD) : Int := if t.fBase = -1 then 7 else ah.getD t.fBase.toNat 0
def behindZ (ah : List Int) (t : TypeD) : Int := mixL ([firstZ t, baseRZ ah t] ++ fieldsZ ah t.fFields)
def stepZ (l : List TypeD) (ah : List Int) : List Int := l.map (behindZ ah)
def firstsZ (l : List TypeD) : List Int := l.map firstZ
/-- The numbers behind some rounds. -/
def roundsZ (l : List TypeD) : Nat → List Int
  | 0 => firstsZ l
  | r + 1 => stepZ l (roundsZ l r)
theorem roundsZ_len (l : List TypeD) : ∀ r, (roundsZ l r).length = l.length
  | 0 => by simp [roundsZ, firstsZ]
  | r + 1 => by simp [roundsZ, stepZ]

/-- What is asked of a type in a table of n. -/
structure RT (n : Nat) (t : TypeD) : Prop where
  six : t.fFields.length ≤ 6
  base : t.fBase = -1 ∨ (0 ≤ t.fBase ∧ t.fBase < (n : Int))
  owner : t.fOwner.size ≤ 200
  name : t.fName.size ≤ 200
  field : ∀ i (h : i < t.fFields.length), t.fFields[i].fName.size ≤ 200 ∧ 0 ≤ t.fFields[i].fType ∧ t.fFields[i].fType < (n : Int)
theorem nameP_le {s : ByteArray} (h : nameP s) : s.size ≤ 200 := by have := h.2.1; omega
theorem baseN_le : ∀ n, n < 3 → (baseN n).size ≤ 200 := by decide
theorem near.rt {l : List TypeD} (h : near l) (n : Nat) (hn : n < l.length) : RT l.length l[n] := by
  have hp := h.parts n hn
  have hbase : l[n].fBase = -1 ∨ (0 ≤ l[n].fBase ∧ l[n].fBase < (l.length : Int)) := by
    by_cases e : l[n].fBase = -1
    · exact .inl e
    · exact .inr (hp _ (by unfold partsD; rw [if_neg e]; simp))
  have hft : ∀ i (hi : i < l[n].fFields.length), 0 ≤ l[n].fFields[i].fType ∧ l[n].fFields[i].fType < (l.length : Int) := fun i hi =>
    hp _ (by unfold partsD; exact List.mem_append.2 (.inr (List.mem_map.2 ⟨_, List.getElem_mem hi, rfl⟩)))
  rcases h.ok n hn with ⟨h3, hb⟩ | ⟨_, ho⟩
  · refine ⟨h.six _ (List.getElem_mem hn), hbase, by have := hb.2.2.2.2.1; omega, by rw [hb.2.2.2.2.2]; exact baseN_le n h3, fun i hi => ?_⟩
    have := hb.2.2.2.1
    omega
  · have hc : l[n].fOwner.size ≤ 200 ∧ l[n].fName.size ≤ 200 := by
      rcases ho.1 with ⟨h1, h2⟩ | ⟨h1, h2⟩
      · exact ⟨nameP_le h1, nameP_le h2⟩
      · omega
    refine ⟨h.six _ (List.getElem_mem hn), hbase, hc.1, hc.2, fun i hi => ⟨?_, hft i hi⟩⟩
    rcases ho.2 with ⟨_, _, _, f⟩ | ⟨_, _, _, f⟩ | ⟨_, _, _, f⟩
    · omega
    · rcases (f.2.1 i hi hi).1 with h1 | h1
      · exact nameP_le h1
      · omega
    · omega

theorem fieldsZ_zero (ah : List Int) (fs : List FieldD) : fieldsZ ah (fs.take 0) = [] := by simp [fieldsZ]
theorem fieldsZ_next (ah : List Int) {fs : List FieldD} {k : Nat} (h : k < fs.length) : fieldsZ ah (fs.take (k + 1)) = fieldsZ ah (fs.take k) ++ fieldZ ah fs[k] := by
  unfold fieldsZ
  rw [List.take_succ_eq_append_getElem h, List.flatMap_append]
  simp
theorem fieldsZ_len (ah : List Int) : ∀ fs : List FieldD, (fieldsZ ah fs).length = 3 * fs.length
  | [] => rfl
  | f :: fs => by
    have := fieldsZ_len ah fs
    unfold fieldsZ at this ⊢
    rw [List.flatMap_cons, List.length_append, this, List.length_cons]
    unfold fieldZ
    simp
    omega
theorem map_next {T : Type} (f : T → Int) {l : List T} {k : Nat} (h : k < l.length) : (l.map f).take (k + 1) = (l.map f).take k ++ [f l[k]] := by
  rw [List.take_succ_eq_append_getElem (by simpa using h), List.getElem_map]
theorem map_all {T : Type} (f : T → Int) {l : List T} {k : Nat} (h : ¬ k < l.length) : (l.map f).take k = l.map f := List.take_of_length_le (by simp; omega)

/-- append of some numbers in a region whose order is left open. -/
theorem step_pushInts {ops : Array Oper} {o : Oper} {a : Act} {K : Act → World → Prop} {Q : Exit → Act → World → Prop} {E : Prop} (hgd : o.guard = none) (s x : Operand)
    (ho : o.op = .call { callee := .builtin .append, args := #[s, x], argTypes := #[48, 48] })
    (B : Nat) (w : World) (v : Value) (l : List Int) (hs : a.eval s = v) (hown : OwnInts w B v l) (m : List Int) (g n c : Nat) (hx : a.eval x = .slice (some ⟨g, 0, none⟩) n c) (hn : n = m.length) (hg : Box w g 3 (m.map (Value.int .i64)).toArray) (hm : 0 < m.length)
    (h63 : l.length + m.length ≤ 1048577 + 1048576) (hbase : B ≤ w.heap.size)
    (h : ∀ v' w', OwnInts w' B v' (l ++ m) → w.grownBy w' v.ownBlock → (∀ k, v.ownBlock = some k → B ≤ k ∧ k < w.heap.size) → K (a.put o.dst v') w') : if Region.wanted o (yielded ops a.tmps) = true then Oper.wp Tryz.prog o a w K Q else E := by
  subst hn
  obtain ⟨i0, hi, hz0, hz1, hz2⟩ := info_parts infoInt
  refine step_append_lies w hgd s x 48 ho B 3 i0 _ 1 8 Tryz.underlying48 hi hz0 hz1 hz2 rfl (by decide) v l.length (l.map (Value.int .i64)) hs hown ⟨g, 0, none⟩ m.length c (m.map (Value.int .i64)) hx (by simp) ?_
    (fun y hy => by
      obtain ⟨z, _, rfl⟩ := List.mem_map.1 hy
      rfl) hm (by unfold maxLen; omega) (by omega) hbase _ rfl (fun g' cap w' h1 h2 _ _ => h _ w' (by unfold OwnInts; rw [List.map_append, List.length_append]; exact h1) h2 (World.ownsRow.lt hown))
  intro j u' hu
  have e : (⟨g, 0, none⟩ : Addr).add j = ⟨g, j, none⟩ := by unfold Addr.add; split <;> simp_all
  rw [e, hg.cell]
  simpa using hu
theorem OwnInts.drew1 {w : World} {B : Nat} {v : Value} {l : List Int} (h : OwnInts w B v l) : OwnInts w.drew B v l := h
theorem below_drew1 {B : Nat} {w w' : World} (h : Below B w w') : Below B w w'.drew := ⟨h.os, h.tape, h.output, h.size, h.block⟩
theorem Ints.ofLit {w : World} {g : Nat} {l : List Int} (h : Box w g 3 (l.map (Value.int .i64)).toArray) : Ints w (some ⟨g, 0, none⟩) l := fun i hi => ⟨g, 0, rfl, h.lt, by rw [Nat.zero_add, h.cell]; simp [List.getD, hi]⟩
theorem sMixBox (g n c : Nat) (l : List Int) (w : World) (h : Box w g 3 (l.map (Value.int .i64)).toArray) (hn : n = l.length) (hl : l.length ≤ 200) :
    Calls Tryz.prog 45 #[.slice (some ⟨g, 0, none⟩) n c] w fun e w' => e = .returned (.int .i64 (mixL l)) ∧ w = w' := by
  subst hn
  exact sMixed _ c l w hl (Ints.ofLit h)
theorem iMixBox (g n c : Nat) (l : List Int) (w : World) (h : Box w g 3 (l.map (Value.int .i64)).toArray) (hn : n = l.length) (hl : l.length ≤ 200) :
    Calls Tryz.prog 58 #[.slice (some ⟨g, 0, none⟩) n c] w fun e w' => e = .returned (.int .i64 (mixL l)) ∧ w = w' := by
  subst hn
  exact iMixed _ c l w hl (Ints.ofLit h)
theorem box6 {w : World} {g : Nat} {t : TypeId} {c0 c1 c2 c3 c4 c5 : Value} (h : Box w g t #[c0, c1, c2, c3, c4, c5]) : w.cell? ⟨g, 0, none⟩ = some c0 ∧ w.cell? ⟨g, 1, none⟩ = some c1 ∧ w.cell? ⟨g, 2, none⟩ = some c2 ∧ w.cell? ⟨g, 3, none⟩ = some c3 ∧ w.cell? ⟨g, 4, none⟩ = some c4 ∧ w.cell? ⟨g, 5, none⟩ = some c5 := ⟨h.cell 0, h.cell 1, h.cell 2, h.cell 3, h.cell 4, h.cell 5⟩
theorem box3 {w : World} {g : Nat} {t : TypeId} {c0 c1 c2 : Value} (h : Box w g t #[c0, c1, c2]) : w.cell? ⟨g, 0, none⟩ = some c0 ∧ w.cell? ⟨g, 1, none⟩ = some c1 ∧ w.cell? ⟨g, 2, none⟩ = some c2 := ⟨h.cell 0, h.cell 1, h.cell 2⟩
theorem box_grown {w w' : World} {g : Nat} {t : TypeId} {cs : Array Value} {row : Option Nat} (h : Box w g t cs) (hg : w.grownBy w' row) (hne : ∀ k, row = some k → k ≠ g) : Box w' g t cs := (hg.block g h.lt (fun e => hne g e.symm rfl)).trans h
theorem OwnInts.ofBox {w : World} {g B : Nat} {l : List Int} (h : Box w g 3 (l.map (Value.int .i64)).toArray) (hB : B ≤ g) (hl : l.length ≤ maxLen) : OwnInts w B (.slice (some ⟨g, 0, none⟩) l.length l.length) l :=
  ⟨by simp, .inr ⟨g, l.length, _, rfl, hB, h, Nat.le_refl _, hl, by simp, by simp [List.take_of_length_le]⟩⟩
theorem Nums.at {w : World} {b o : Nat} {l : List Int} (h : Nums w (some ⟨b, o, none⟩) l) (n : Nat) (hn : n < l.length) : b < w.heap.size ∧ w.cell? ⟨b, o + n, none⟩ = some (.int .i64 (l.getD n 0)) := by
  obtain ⟨b', o', e, h1, h2⟩ := h n hn
  cases e
  exact ⟨h1, by rw [h2]; simp [List.getD, hn]⟩
theorem OwnInts.form {w : World} {B : Nat} {v : Value} {l : List Int} (h : OwnInts w B v l) : ∃ a n c, v = .slice a n c := by
  obtain ⟨a, c, h, _⟩ := h.nums
  exact ⟨a, _, c, h⟩
end Go.Proofs.YtllddjmcemcdhaaGreat
