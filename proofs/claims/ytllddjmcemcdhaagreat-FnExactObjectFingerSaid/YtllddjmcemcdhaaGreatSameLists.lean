
/-
  What is proved: comparisons of structs as one Bool; contracts of slices.Equal and of the model's l4SameNames. No condition beside what each theorem states.
-/
import Derived.Test.YtllddjmcemcdhaaGreatStrs
import Derived.Test.YtllddjmcemcdhaaGreatEqHeads
import Derived.Test.YtllddjmcemcdhaaGreatToScope
import Derived.Deep.QuietTactic
import Derived.BigQuiet
namespace Go.Proofs.YtllddjmcemcdhaaGreat
open Go.ChangeShapes Go.WideShapes Go.ChangeAt Go.RowKit

open Classical in
noncomputable def sameB {T : Type} (l m : List T) : Bool := decide (l = m)
theorem sameB_true {T : Type} {l m : List T} (h : l = m) : sameB l m = true := by unfold sameB; simpa using h
theorem sameB_false {T : Type} {l m : List T} (h : ¬ l = m) : sameB l m = false := by unfold sameB; simpa using h
theorem sameB_iff {T : Type} {l m : List T} : sameB l m = true ↔ l = m := by unfold sameB; simp
/-- Alike up to place k. -/
def agreeTo {T : Type} (l m : List T) (k : Nat) : Prop := ∀ i (h : i < l.length) (h' : i < m.length), i < k → l[i] = m[i]
theorem agree_zero {T : Type} {l m : List T} : agreeTo l m 0 := fun _ _ _ h => absurd h (by omega)
theorem agree_next {T : Type} {l m : List T} {k : Nat} (hk : k < l.length) (hk' : k < m.length) (h : agreeTo l m k) (he : l[k] = m[k]) : agreeTo l m (k + 1) := fun i h1 h2 hik => by
  by_cases e : i = k
  · subst e; exact he
  · exact h i h1 h2 (by omega)
theorem agree_bad {T : Type} {l m : List T} {k : Nat} (hk : k < l.length) (hk' : k < m.length) (he : ¬ l[k] = m[k]) : sameB l m = false := sameB_false fun e => by subst e; exact he rfl
theorem agree_all {T : Type} {l m : List T} (hl : l.length = m.length) (h : agreeTo l m l.length) : sameB l m = true := sameB_true (List.ext_getElem hl fun i h1 h2 => h i h1 h2 h1)
theorem agree_len {T : Type} {l m : List T} (hl : ¬ l.length = m.length) : sameB l m = false := sameB_false fun e => hl (by rw [e])

theorem bytes_iff (a b : ByteArray) : a.toList = b.toList ↔ a = b := ⟨fun h => ByteArray.ext (Array.ext' (by simpa [ByteArray.toList_eq] using h)), fun h => by rw [h]⟩
theorem eqSII {P : Program} {t s i : TypeId} {f0 f1 f2 : Field} (hk : P.underlying t = some (.struct #[f0, f1, f2])) (hp : P.stoodInHeld t = false)
    (n0 : (f0.name != "_") = true) (n1 : (f1.name != "_") = true) (n2 : (f2.name != "_") = true) (t0 : f0.type = s) (t1 : f1.type = i) (t2 : f2.type = i) (o0 : f0.offset = 0) (o1 : f1.offset = 1) (o2 : f2.offset = 2) (hs : P.underlying s = some .string) (hi : P.underlying i = some (.int .i64))
    (a a' : ByteArray) (x y x' y' : Int) (W : World) : (Op.equalIn 10000 t (.agg #[.string a, .int .i64 x, .int .i64 y]) (.agg #[.string a', .int .i64 x', .int .i64 y'])).run P W = .ok ((a.toList == a'.toList) && ((x == x') && (y == y'))) W := by
  have hf : P.fieldsOf t = #[f0, f1, f2] := by unfold Program.fieldsOf; rw [hk]
  have ps := part_cell (P := P) (s := s) (by rw [hs])
  have pi := part_cell (P := P) (s := i) (by rw [hi])
  rw [bne_iff_ne] at n0 n1 n2
  rw [show (10000 : Nat) = 9998 + 1 + 1 from rfl, run_equalIn_struct W (9998 + 1) t _ _ (by rw [hf]; exact hk) hp, hf]
  simp only [Op.eqFields, n0, n1, n2, ne_eq, not_false_eq_true, if_true, t0, t1, t2, o0, o1, o2]
  cases h0 : (a.toList == a'.toList) <;> cases h1 : (x == x') <;> cases h2 : (y == y') <;>
    simp [Sem.run_bind, ps, pi, run_equalIn_string _ 9998 s _ _ hs, run_equalIn_int _ 9998 i _ _ _ _ hi, Result.andThen, h0, h1, h2]
theorem eqSBI {P : Program} {t s b i : TypeId} {f0 f1 f2 : Field} (hk : P.underlying t = some (.struct #[f0, f1, f2])) (hp : P.stoodInHeld t = false)
    (n0 : (f0.name != "_") = true) (n1 : (f1.name != "_") = true) (n2 : (f2.name != "_") = true) (t0 : f0.type = s) (t1 : f1.type = b) (t2 : f2.type = i) (o0 : f0.offset = 0) (o1 : f1.offset = 1) (o2 : f2.offset = 2) (hs : P.underlying s = some .string) (hb : P.underlying b = some .bool) (hi : P.underlying i = some (.int .i64))
    (a a' : ByteArray) (x x' : Bool) (y y' : Int) (W : World) : (Op.equalIn 10000 t (.agg #[.string a, .bool x, .int .i64 y]) (.agg #[.string a', .bool x', .int .i64 y'])).run P W = .ok ((a.toList == a'.toList) && ((x == x') && (y == y'))) W := by
  have hf : P.fieldsOf t = #[f0, f1, f2] := by unfold Program.fieldsOf; rw [hk]
  have ps := part_cell (P := P) (s := s) (by rw [hs])
  have pb := part_cell (P := P) (s := b) (by rw [hb])
  have pi := part_cell (P := P) (s := i) (by rw [hi])
  rw [bne_iff_ne] at n0 n1 n2
  rw [show (10000 : Nat) = 9998 + 1 + 1 from rfl, run_equalIn_struct W (9998 + 1) t _ _ (by rw [hf]; exact hk) hp, hf]
  simp only [Op.eqFields, n0, n1, n2, ne_eq, not_false_eq_true, if_true, t0, t1, t2, o0, o1, o2]
  cases h0 : (a.toList == a'.toList) <;> cases h1 : (x == x') <;> cases h2 : (y == y') <;>
    simp [Sem.run_bind, ps, pb, pi, run_equalIn_string _ 9998 s _ _ hs, run_equalIn_int _ 9998 i _ _ _ _ hi, run_equalIn_bool' _ 9998 b _ _ hb, Result.andThen, h0, h1, h2]
theorem eqUse (a b a' b' : ByteArray) (W : World) : (Op.equalIn 10000 102 (.agg #[.string a, .string b]) (.agg #[.string a', .string b'])).run Tryz.prog W = .ok ((a.toList == a'.toList) && (b.toList == b'.toList)) W :=
  eqTwo Tryz.underlying102 (by kernel_rfl) (by decide) (by decide) rfl rfl rfl rfl Tryz.underlying9 9998 a b a' b' W
theorem use_bool {u v : UseD} : ((u.fMod.toList == v.fMod.toList) && (u.fName.toList == v.fName.toList)) = true ↔ u = v := by
  obtain ⟨a, b⟩ := u
  obtain ⟨c, d⟩ := v
  simp [bytes_iff]
theorem eqField (a : ByteArray) (x y : Int) (a' : ByteArray) (x' y' : Int) (W : World) : (Op.equalIn 10000 113 (.agg #[.string a, .int .i64 x, .int .i64 y]) (.agg #[.string a', .int .i64 x', .int .i64 y'])).run Tryz.prog W = .ok ((a.toList == a'.toList) && ((x == x') && (y == y'))) W :=
  eqSII Tryz.underlying113 (by kernel_rfl) (by decide) (by decide) (by decide) rfl rfl rfl rfl rfl rfl Tryz.underlying9 Tryz.underlying3 a a' x y x' y' W
theorem field_bool {u v : FieldD} : ((u.fName.toList == v.fName.toList) && ((u.fMark == v.fMark) && (u.fType == v.fType))) = true ↔ u = v := by
  obtain ⟨a, b, c⟩ := u
  obtain ⟨a', b', c'⟩ := v
  simp [bytes_iff]
theorem eqParam (a : ByteArray) (x : Bool) (y : Int) (a' : ByteArray) (x' : Bool) (y' : Int) (W : World) : (Op.equalIn 10000 106 (.agg #[.string a, .bool x, .int .i64 y]) (.agg #[.string a', .bool x', .int .i64 y'])).run Tryz.prog W = .ok ((a.toList == a'.toList) && ((x == x') && (y == y'))) W :=
  eqSBI Tryz.underlying106 (by kernel_rfl) (by decide) (by decide) (by decide) rfl rfl rfl rfl rfl rfl Tryz.underlying9 Tryz.underlying4 Tryz.underlying3 a a' x x' y y' W
theorem param_bool {u v : ParamD} : ((u.fName.toList == v.fName.toList) && ((u.fByVar == v.fByVar) && (u.fType == v.fType))) = true ↔ u = v := by
  obtain ⟨a, b, c⟩ := u
  obtain ⟨a', b', c'⟩ := v
  simp [bytes_iff]

end Go.Proofs.YtllddjmcemcdhaaGreat
