
/-
  What is proved: what steps do, as data; the contracts of the program's operatorOfKind and actionOf. No condition beside what each theorem states.
-/
import Derived.Test.YteajdempddklgaaDoorStStep
import Derived.Test.YteajdempddklgaaDoorOpers
import Derived.Handy
import Derived.BigRegion
namespace Go.Proofs.YteajdempddklgaaDoor
open Go.ChangeShapes Go.WideShapes Go.ChangeAt Go.RowKit
set_option maxRecDepth 100000

/-- What a step does; a pair by its place in the table. -/
inductive ActD where
  | num (v : Int)
  | name (m n : ByteArray)
  | pair (j : Nat)
  | minus
def ActD.val : ActD → Value
  | .num v => .iface 179 (.agg #[.int .i64 v])
  | .name m n => .iface 125 (.agg #[.string m, .string n])
  | .pair j => .iface 187 (.agg #[.int .i64 (opK j), .string (opT j), .int .i64 (opS j)])
  | .minus => .iface 181 (.agg #[])
def ActD.takes : ActD → Int
  | .num _ => 0
  | .name _ _ => 0
  | .pair _ => 2
  | .minus => 1
def ActD.ok : ActD → Prop
  | .pair j => j < 5
  | _ => True

def plainP (s : StepD) : Prop := s.fValue = 0 ∧ s.fMod = ByteArray.empty ∧ s.fName = ByteArray.empty
/-- What a good step does. -/
def IsAct (s : StepD) (a : ActD) : Prop :=
  (s.fKind = 1 ∧ s.fMod = ByteArray.empty ∧ s.fName = ByteArray.empty ∧ 0 ≤ s.fValue ∧ s.fValue ≤ 1000000000 ∧ a = .num s.fValue) ∨
  (s.fKind = 2 ∧ s.fValue = 0 ∧ nameP s.fName ∧ (s.fMod = ByteArray.empty ∨ nameP s.fMod) ∧ a = .name s.fMod s.fName) ∨
  (s.fKind = 8 ∧ plainP s ∧ a = .minus) ∨
  (∃ j : Nat, j < 5 ∧ s.fKind = 3 + (j : Int) ∧ plainP s ∧ a = .pair j)
theorem IsAct.unique {s : StepD} {a b : ActD} (h : IsAct s a) (h' : IsAct s b) : a = b := by
  rcases h with ⟨h1, _, _, _, _, rfl⟩ | ⟨h1, _, _, _, rfl⟩ | ⟨h1, _, rfl⟩ | ⟨j, hj, h1, _, rfl⟩ <;> rcases h' with ⟨g1, _, _, _, _, rfl⟩ | ⟨g1, _, _, _, rfl⟩ | ⟨g1, _, rfl⟩ | ⟨i, hi, g1, _, rfl⟩
  all_goals first | rfl | omega | (congr 1; omega)
theorem opK_eq {j : Nat} (h : j < 5) : opK j = 3 + (j : Int) := by
  match j, h with
  | 0, _ | 1, _ | 2, _ | 3, _ | 4, _ => rfl
  | n + 5, h => omega

theorem part_cell {P : Program} {s : TypeId} (h : (match P.underlying s with | some .string | some (.int _) | some .bool => true | _ => false) = true) (cs : Array Value) (k : Nat) (W : World) : (part s cs k).run P W = (match cs[k]? with | some v => (pure v : Sem Value) | none => stuck "part: no such cell").run P W := by
  cases hu : P.underlying s with
  | none => rw [hu] at h; cases h
  | some d =>
    rw [hu] at h
    cases d <;> first | (cases h; done) | (simp [part, isAgg, run_underlying hu, Result.andThen]; cases cs[k]? <;> rfl)
/-- Two steps, field by field. -/
theorem eqFour {P : Program} {t i s : TypeId} {f0 f1 f2 f3 : Field} (hk : P.underlying t = some (.struct #[f0, f1, f2, f3])) (hp : P.stoodInHeld t = false)
    (n0 : (f0.name != "_") = true) (n1 : (f1.name != "_") = true) (n2 : (f2.name != "_") = true) (n3 : (f3.name != "_") = true)
    (t0 : f0.type = i) (t1 : f1.type = i) (t2 : f2.type = s) (t3 : f3.type = s) (o0 : f0.offset = 0) (o1 : f1.offset = 1) (o2 : f2.offset = 2) (o3 : f3.offset = 3)
    (hs : P.underlying s = some .string) (hi : P.underlying i = some (.int .i64)) (k v k' v' : Int) (m n m' n' : ByteArray) (W : World) :
    (Op.equalIn 10000 t (.agg #[.int .i64 k, .int .i64 v, .string m, .string n]) (.agg #[.int .i64 k', .int .i64 v', .string m', .string n'])).run P W = .ok ((k == k') && ((v == v') && ((m.toList == m'.toList) && (n.toList == n'.toList)))) W := by
  have hf : P.fieldsOf t = #[f0, f1, f2, f3] := by unfold Program.fieldsOf; rw [hk]
  have pi := part_cell (P := P) (s := i) (by rw [hi])
  have ps := part_cell (P := P) (s := s) (by rw [hs])
  rw [bne_iff_ne] at n0 n1 n2 n3
  rw [run_equalIn_struct W 9999 t _ _ (by rw [hf]; exact hk) hp, hf]
  simp only [Op.eqFields, n0, n1, n2, n3, ne_eq, not_false_eq_true, if_true, t0, t1, t2, t3, o0, o1, o2, o3]
  cases h0 : (k == k') <;> cases h1 : (v == v') <;> cases h2 : (m.toList == m'.toList) <;> cases h3 : (n.toList == n'.toList) <;>
    simp [Sem.run_bind, pi, ps, run_equalIn_string _ 9998 s _ _ hs, run_equalIn_int _ 9998 i _ _ _ _ hi, Result.andThen, h0, h1, h2, h3]
theorem eqStep (k v k' v' : Int) (m n m' n' : ByteArray) (W : World) : (Op.equalIn 10000 72 (.agg #[.int .i64 k, .int .i64 v, .string m, .string n]) (.agg #[.int .i64 k', .int .i64 v', .string m', .string n'])).run Tryd.prog W = .ok ((k == k') && ((v == v') && ((m.toList == m'.toList) && (n.toList == n'.toList)))) W :=
  eqFour Tryd.underlying72 (by kernel_rfl) (by decide) (by decide) (by decide) (by decide) rfl rfl rfl rfl rfl rfl rfl rfl Tryd.underlying9 Tryd.underlying3 k v k' v' m n m' n' W
end Go.Proofs.YteajdempddklgaaDoor
