
/-
  What is proved: small facts on structs that are results, on arrays that are stored whole. No condition beside what each theorem states.
-/
import Derived.Test.YtheomjimknfapaaShape
import Derived.Test.YtheomjimknfapaaRows
import Derived.Laws.MakeOwn
import Derived.Laws.ResultCell
namespace Go.Proofs.Ytheomjimknfapaa
open Go.RowKit

theorem results_one {P : Program} {fn : Func} {p : Tmp} {ty : TypeId} {d : TypeDesc} (h : fn.results = #[.cell p ty]) (hu : P.underlying ty = some d) (hd : (match d with | .struct _ | .array _ _ => true | _ => false) = true)
    (tmps : Array Value) (w : World) (g : Nat) (cs : Array Value) (hp : tmps.getD p undef = .pointer (some ⟨g, 0, none⟩)) (t : TypeId) (hb : Box w g t cs) (n : Nat) (hi : (P.info? ty).map (·.size) = some n) (hn : cs.size = n) :
    (results fn tmps).run P w = .ok (.agg cs) w := by
  have hl : (loadVar ty ⟨g, 0, none⟩).run P w = .ok (.agg cs) w := run_loadVar_row w g _ _ cs (0, 0) d hb hu hd (by rw [hi, hn])
  rw [Array.getD_eq_getD_getElem?] at hp
  simp only [results, h]
  simp [hp, asAddr, hl]

/-- Stores one behind the other. -/
def setL (w : World) (g p : Nat) : List Value → World
  | [] => w
  | c :: cs => setL (w.setCell ⟨g, p, none⟩ c) g (p + 1) cs
theorem Box.setL {g : Nat} {t : TypeId} : ∀ (cs : List Value) {w : World} {arr : Array Value} (p : Nat), Box w g t arr → Box (setL w g p cs) g t (putL arr p cs)
  | [], _, _, _, h => h
  | c :: cs, _, _, p, h => Box.setL cs (p + 1) (h.set p c)
theorem Only.setL {g : Nat} : ∀ (cs : List Value) {w w' : World} (p : Nat), Only g w w' → Only g w (setL w' g p cs)
  | [], _, _, _, h => h
  | c :: cs, _, _, p, h => Only.setL cs (p + 1) (h.set p c)

theorem Only.keepQ {T : Type} {S : Shape T} {Q : Nat → Prop} {w w' : World} {arr : Array Value} {l : List T} {k g : Nat} (h : Filled S Q w arr l k) (ho : Only g w w') (hq : ¬ Q g) : Filled S Q w' arr l k :=
  h.keep (fun b hb hl => ho.block b hl (fun e => hq (by injection e with e; rw [← e]; exact hb))) ho.size

/-- An element is stored behind the first k ones. -/
theorem filled_store {T : Type} {S : Shape T} {Q : Nat → Prop} {w : World} {g : Nat} {t : TypeId} {arr : Array Value} {l : List T} {k : Nat} {cs : List Value} (hk : k < l.length) (hb : Box w g t arr) (hs : arr.size = l.length * S.n) (h : Filled S Q w arr l k) (hc : S.At Q w cs l[k]) (hq : ¬ Q g) :
    ∃ arr', Box (setL w g (k * S.n) cs) g t arr' ∧ arr'.size = l.length * S.n ∧ Filled S Q (setL w g (k * S.n) cs) arr' l (k + 1) ∧ Only g w (setL w g (k * S.n) cs) :=
  have ho := Only.setL cs (k * S.n) (Only.refl g w)
  ⟨_, Box.setL cs _ hb, by rw [putL_size, hs], Only.keepQ (filled_put hk h hc hs) ho hq, ho⟩

end Go.Proofs.Ytheomjimknfapaa
