
/-
  What is proved: what alike objects are; contracts of the program's alike on a table that grew from nothing, and of alikeOrNone. No condition beside what each theorem states.
-/
import Derived.Test.YtjkcbeehjgikgaaISame
import Derived.Test.YtjkcbeehjgikgaaSame
import Derived.Test.YtjkcbeehjgikgaaSameParts
import Derived.Test.YtjkcbeehjgikgaaUnlike
namespace Go.Proofs.Ytjkcbeehjgikgaa
open Go.ChangeShapes Go.WideShapes Go.ChangeAt Go.RowKit Go.Maps Go.WideMaps

/-- Types that are alike, or both none. -/
def simN (A B : List TypeD) (x y : Int) : Prop := (x < 0 ∧ y < 0) ∨ (¬ (x < 0 ∨ y < 0) ∧ Sim A B x y)
/-- A table of pairs that grew from nothing. -/
def MapIn (A B : List TypeD) (w : World) (g : Nat) : Prop := ∃ (L : List (Int × Int)) (f : Lit → Bool) (nf : Nat), Held A B L ∧ Grew A B [] L ∧ BMap 198 w g nf f ∧ nf ≤ L.length ∧ toldP A B L f
theorem MapIn.lt {A B : List TypeD} {w : World} {g : Nat} (h : MapIn A B w g) : g < w.heap.size := by obtain ⟨L, f, nf, _, _, h, _⟩ := h; exact h.lt
theorem MapIn.block {A B : List TypeD} {w w' : World} {g : Nat} (h : MapIn A B w g) (hb : w'.heap[g]? = w.heap[g]?) : MapIn A B w' g := by
  obtain ⟨L, f, nf, h1, h2, h3, h4, h5⟩ := h
  exact ⟨L, f, nf, h1, h2, h3.block hb, h4, h5⟩
theorem MapIn.below {A B : List TypeD} {w w' : World} {g : Nat} (h : MapIn A B w g) (hb : Below w.heap.size w w') : MapIn A B w' g := h.block (hb.block g h.lt)
theorem MapIn.drew {A B : List TypeD} {w : World} {g : Nat} (h : MapIn A B w g) : MapIn A B w.drew g := h.block rfl
theorem MapIn.made (A B : List TypeD) (w : World) : MapIn A B (w.alloc (.map #[] 0)) w.heap.size := ⟨[], _, 0, held_nil, Grew.refl held_nil, BMap.made w, Nat.zero_le _, fun p q _ => ⟨fun h => (by cases h), fun h => (by cases h)⟩⟩
/-- In a table or none. -/
def tabN (l : List TypeD) (x : Int) : Prop := -1 ≤ x ∧ x < (l.length : Int)

theorem iAlike1 (A B : List TypeD) (hA : near A) (hB : near B) (a b : Option Addr) (ca cb g : Nat) (x y : Int) (w : World) (hx : inTables A B (x, y)) (hM : MapIn A B w g) (hra : Rows typeS (fun b => b ≠ g) w a A) (hrb : Rows typeS (fun b => b ≠ g) w b B) :
    Calls Try.prog 161 #[.agg #[.slice a A.length ca, .slice b B.length cb, .map (some g)], .int .i64 x, .int .i64 y] w fun e w' => ∃ v : Bool, e = .returned (.bool v) ∧ (v = true → Sim A B x y ∧ MapIn A B w' g) ∧ (v = false → ¬ Sim A B x y) ∧ Only g w w' := by
  obtain ⟨L, f, nf, h1, h2, h3, h4, h5⟩ := hM
  refine (iAlike A B hA hB a b ca cb g 577 L f nf x y w (by omega) h1 hx h3 h4 h5 hra hrb).mono ?_
  rintro e w' (⟨rfl, L', f', n', g1, g2, g3, g4, g5, g6⟩ | ⟨rfl, g1, g2⟩)
  · have hG := h2.trans g1
    exact ⟨true, rfl, fun _ => ⟨hG.sim g2, L', f', n', g1.held, hG, g3, g4, g5⟩, fun h => (by cases h), g6⟩
  · exact ⟨false, rfl, fun h => (by cases h), fun _ => g1, g2⟩

set_option maxRecDepth 100000 in
set_option maxHeartbeats 4000000 in
theorem iAlikeOrNone (A B : List TypeD) (hA : near A) (hB : near B) (a b : Option Addr) (ca cb g : Nat) (x y : Int) (w : World) (hx : tabN A x) (hy : tabN B y) (hM : MapIn A B w g) (hra : Rows typeS (fun b => b ≠ g) w a A) (hrb : Rows typeS (fun b => b ≠ g) w b B) :
    Calls Try.prog 160 #[.agg #[.slice a A.length ca, .slice b B.length cb, .map (some g)], .int .i64 x, .int .i64 y] w fun e w' => ∃ v : Bool, e = .returned (.bool v) ∧ (v = true → simN A B x y ∧ MapIn A B w' g) ∧ (v = false → ¬ simN A B x y) ∧ Only g w w' := by
  obtain ⟨hx1, hx2⟩ := hx
  obtain ⟨hy1, hy2⟩ := hy
  have hb0 := (Below.refl w.heap.size w).alloc (Nat.le_refl _) (.cells #[.slice a A.length ca, .slice b B.length cb, .map (some g)] 133)
  have M0 := Lib.hid (hM.below hb0)
  have O0 := Lib.hid (Only.ofBelow (g := g) hb0)
  have Ra := Lib.hid (hra.below hb0)
  have Rb := Lib.hid (hrb.below hb0)
  clear hM hra hrb hb0
  by_cases px : x = -1
  · subst px
    by_cases py : y = -1
    · subst py
      go_enter Try.func160, Try.ntmps160
      go_wp2_with fail
      go_ret
      exact ⟨true, rfl, fun _ => ⟨.inl ⟨by omega, by omega⟩, M0.out⟩, fun h => (by cases h), O0.out⟩
    · have q1 : ((-1 : Int) == y) = false := beq_eq_false_iff_ne.2 (fun h => py h.symm)
      have q2 : ¬ (-1 : Int) = y := fun h => py h.symm
      go_enter Try.func160, Try.ntmps160
      go_wp2_with fail
      go_ret
      exact ⟨false, by rw [← q1]; rfl, fun h => (by cases h), fun _ h => by rcases h with h | h <;> omega, O0.out⟩
  · have p1 : (x == -1) = false := beq_eq_false_iff_ne.2 px
    by_cases py : y = -1
    · subst py
      go_enter Try.func160, Try.ntmps160
      go_wp2_with fail
      go_ret
      exact ⟨false, by rw [← p1]; rfl, fun h => (by cases h), fun _ h => by rcases h with h | h <;> omega, O0.out⟩
    · have q1 : (y == -1) = false := beq_eq_false_iff_ne.2 py
      have hal := iAlike1 A B hA hB a b ca cb g x y _ ⟨⟨by omega, hx2⟩, by omega, hy2⟩ M0.out Ra.out Rb.out
      have Hal := Lib.hid hal
      have Hn := Lib.hid (show simN A B x y ↔ Sim A B x y from ⟨fun h => h.elim (fun h => by omega) (fun h => h.2), fun h => .inr ⟨by omega, h⟩⟩)
      clear hal
      go_enter Try.func160, Try.ntmps160
      go_wp2_with fail
      refine Hal.out.mono ?_
      rintro e w1 ⟨v, rfl, hv1, hv2, ho⟩
      have V1 := Lib.hid hv1
      have V2 := Lib.hid hv2
      have O1 := Lib.hid (O0.out.trans ho)
      clear hv1 hv2 ho
      go_wp2_with fail
      go_ret
      exact ⟨v, rfl, fun h => ⟨Hn.out.2 (V1.out h).1, (V1.out h).2⟩, fun h h2 => V2.out h (Hn.out.1 h2), O1.out⟩

/-- The cells of a param. -/
abbrev parQ (t : ParamD) : Array Value := #[.string t.fName, .bool t.fByVar, .int .i64 t.fType]
/-- What is told by a walk over a table of pairs. -/
def IsAlike (A B : List TypeD) (g : Nat) (P : Prop) (w : World) (e : Ending) (w' : World) : Prop := ∃ v : Bool, e = .returned (.bool v) ∧ (v = true → P ∧ MapIn A B w' g) ∧ (v = false → ¬ P) ∧ Only g w w'
/-- Params that are alike up to place k. -/
def parTo (A B : List TypeD) (ps qs : List ParamD) (k : Nat) : Prop := ∀ i (h : i < ps.length) (h' : i < qs.length), i < k → ps[i].fName = qs[i].fName ∧ ps[i].fByVar = qs[i].fByVar ∧ Sim A B ps[i].fType qs[i].fType
theorem parTo_zero {A B : List TypeD} {ps qs : List ParamD} : parTo A B ps qs 0 := fun _ _ _ h => absurd h (by omega)
theorem parTo_next {A B : List TypeD} {ps qs : List ParamD} {k : Nat} (hk : k < ps.length) (hk' : k < qs.length) (h : parTo A B ps qs k) (h1 : ps[k].fName = qs[k].fName ∧ ps[k].fByVar = qs[k].fByVar ∧ Sim A B ps[k].fType qs[k].fType) : parTo A B ps qs (k + 1) := fun i hi hi' hik => by
  by_cases e : i = k
  · subst e; exact h1
  · exact h i hi hi' (by omega)
/-- Objects that are alike. -/
def alikeO (A B : List TypeD) (o p : ObjectD) : Prop := headsO o p ∧ simN A B o.fType p.fType ∧ parTo A B o.fParams p.fParams o.fParams.length
theorem alikeO_bad {A B : List TypeD} {o p : ObjectD} {k : Nat} (hk : k < o.fParams.length) (hk' : k < p.fParams.length) (h : ¬ (o.fParams[k].fName = p.fParams[k].fName ∧ o.fParams[k].fByVar = p.fParams[k].fByVar ∧ Sim A B o.fParams[k].fType p.fParams[k].fType)) : ¬ alikeO A B o p := fun g => h (g.2.2 k hk hk' hk)
/-- What is asked of an object's types. -/
def objT (l : List TypeD) (o : ObjectD) : Prop := tabN l o.fType ∧ ∀ p ∈ o.fParams, parTyped l.length p
theorem objT_of {l : List TypeD} {o : ObjectD} (hl : near l) (h : objOk l.length o) : objT l o := by
  have h3 := hl.three
  obtain ⟨_, _, h⟩ := h
  rcases h with ⟨_, h1, _, h2⟩ | ⟨_, h1, _, h2⟩ | ⟨_, h1, _, h2⟩
  · refine ⟨⟨by omega, by omega⟩, fun p hp => ?_⟩
    rw [List.length_eq_zero_iff.1 h2] at hp
    cases hp
  · refine ⟨⟨by omega, by omega⟩, fun p hp => ?_⟩
    rw [List.length_eq_zero_iff.1 h2] at hp
    cases hp
  · exact ⟨h1, h2.2.1⟩
end Go.Proofs.Ytjkcbeehjgikgaa
