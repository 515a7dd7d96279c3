
/-
  What is proved: comparisons of structs as one Bool; contracts of slices.Equal and of the model's l4SameNames. No condition beside what each theorem states.
-/
import Derived.Test.YtaccifjkeblhpaaGreatStrs
import Derived.Test.YtaccifjkeblhpaaGreatEqHeads
import Derived.Test.YtaccifjkeblhpaaGreatToScope
import Derived.Deep.QuietTactic
import Derived.BigQuiet
namespace Go.Proofs.YtaccifjkeblhpaaGreat
open Go.ChangeShapes Go.WideShapes Go.ChangeAt Go.RowKit

open Classical in
noncomputable def sameB {T : Type} (l m : List T) : Bool := decide (l = m)
theorem sameB_true {T : Type} {l m : List T} (h : l = m) : sameB l m = true := by unfold sameB; simpa using h
theorem sameB_false {T : Type} {l m : List T} (h : ¬ l = m) : sameB l m = false := by unfold sameB; simpa using h
theorem sameB_iff {T : Type} {l m : List T} : sameB l m = true ↔ l = m := by unfold sameB; simp
/-- Alike up to place k. -/
def agreeTo {T : Type} (l m : List T) (k : Nat) : Prop := ∀ i (h : i < l.length) (h' : i < m.length), i < k → l[i] = m[i]
theorem agree_zero {T : Type} {l m : List T} : agreeTo l m 0 := fun _ _ _ h => absurd h (by omega)
theorem agree_next {T : Type} {l m : List T} {k : Nat} (hk : k < l.length) (hk' : k < m.length) (h : agreeTo l m k) (he : l[k] = m[k]) : agreeTo l m (k + 1) := fun i h1 h2 hik => by
  by_cases e : i = k
  · subst e; exact he
  · exact h i h1 h2 (by omega)
theorem agree_bad {T : Type} {l m : List T} {k : Nat} (hk : k < l.length) (hk' : k < m.length) (he : ¬ l[k] = m[k]) : sameB l m = false := sameB_false fun e => by subst e; exact he rfl
theorem agree_all {T : Type} {l m : List T} (hl : l.length = m.length) (h : agreeTo l m l.length) : sameB l m = true := sameB_true (List.ext_getElem hl fun i h1 h2 => h i h1 h2 h1)
theorem agree_len {T : Type} {l m : List T} (hl : ¬ l.length = m.length) : sameB l m = false := sameB_false fun e => hl (by rw [e])

theorem bytes_iff (a b : ByteArray) : a.toList = b.toList ↔ a = b := ⟨fun h => ByteArray.ext (Array.ext' (by simpa [ByteArray.toList_eq] using h)), fun h => by rw [h]⟩
theorem eqSII {P : Program} {t s i : TypeId} {f0 f1 f2 : Field} (hk : P.underlying t = some (.struct #[f0, f1, f2])) (hp : P.stoodInHeld t = false)
    (n0 : (f0.name != "_") = true) (n1 : (f1.name != "_") = true) (n2 : (f2.name != "_") = true) (t0 : f0.type = s) (t1 : f1.type = i) (t2 : f2.type = i) (o0 : f0.offset = 0) (o1 : f1.offset = 1) (o2 : f2.offset = 2) (hs : P.underlying s = some .string) (hi : P.underlying i = some (.int .i64))
    (a a' : ByteArray) (x y x' y' : Int) (W : World) : (Op.equalIn 10000 t (.agg #[.string a, .int .i64 x, .int .i64 y]) (.agg #[.string a', .int .i64 x', .int .i64 y'])).run P W = .ok ((a.toList == a'.toList) && ((x == x') && (y == y'))) W := by
  have hf : P.fieldsOf t = #[f0, f1, f2] := by unfold Program.fieldsOf; rw [hk]
  have ps := part_cell (P := P) (s := s) (by rw [hs])
  have pi := part_cell (P := P) (s := i) (by rw [hi])
  rw [bne_iff_ne] at n0 n1 n2
  rw [show (10000 : Nat) = 9998 + 1 + 1 from rfl, run_equalIn_struct W (9998 + 1) t _ _ (by rw [hf]; exact hk) hp, hf]
  simp only [Op.eqFields, n0, n1, n2, ne_eq, not_false_eq_true, if_true, t0, t1, t2, o0, o1, o2]
  cases h0 : (a.toList == a'.toList) <;> cases h1 : (x == x') <;> cases h2 : (y == y') <;>
    simp [Sem.run_bind, ps, pi, run_equalIn_string _ 9998 s _ _ hs, run_equalIn_int _ 9998 i _ _ _ _ hi, Result.andThen, h0, h1, h2]
theorem eqSBI {P : Program} {t s b i : TypeId} {f0 f1 f2 : Field} (hk : P.underlying t = some (.struct #[f0, f1, f2])) (hp : P.stoodInHeld t = false)
    (n0 : (f0.name != "_") = true) (n1 : (f1.name != "_") = true) (n2 : (f2.name != "_") = true) (t0 : f0.type = s) (t1 : f1.type = b) (t2 : f2.type = i) (o0 : f0.offset = 0) (o1 : f1.offset = 1) (o2 : f2.offset = 2) (hs : P.underlying s = some .string) (hb : P.underlying b = some .bool) (hi : P.underlying i = some (.int .i64))
    (a a' : ByteArray) (x x' : Bool) (y y' : Int) (W : World) : (Op.equalIn 10000 t (.agg #[.string a, .bool x, .int .i64 y]) (.agg #[.string a', .bool x', .int .i64 y'])).run P W = .ok ((a.toList == a'.toList) && ((x == x') && (y == y'))) W := by
  have hf : P.fieldsOf t = #[f0, f1, f2] := by unfold Program.fieldsOf; rw [hk]
  have ps := part_cell (P := P) (s := s) (by rw [hs])
  have pb := part_cell (P := P) (s := b) (by rw [hb])
  have pi := part_cell (P := P) (s := i) (by rw [hi])
  rw [bne_iff_ne] at n0 n1 n2
  rw [show (10000 : Nat) = 9998 + 1 + 1 from rfl, run_equalIn_struct W (9998 + 1) t _ _ (by rw [hf]; exact hk) hp, hf]
  simp only [Op.eqFields, n0, n1, n2, ne_eq, not_false_eq_true, if_true, t0, t1, t2, o0, o1, o2]
  cases h0 : (a.toList == a'.toList) <;> cases h1 : (x == x') <;> cases h2 : (y == y') <;>
    simp [Sem.run_bind, ps, pb, pi, run_equalIn_string _ 9998 s _ _ hs, run_equalIn_int _ 9998 i _ _ _ _ hi, run_equalIn_bool' _ 9998 b _ _ hb, Result.andThen, h0, h1, h2]
theorem eqUse (a b a' b' : ByteArray) (W : World) : (Op.equalIn 10000 101 (.agg #[.string a, .string b]) (.agg #[.string a', .string b'])).run Tryz.prog W = .ok ((a.toList == a'.toList) && (b.toList == b'.toList)) W :=
  eqTwo Tryz.underlying101 (by kernel_rfl) (by decide) (by decide) rfl rfl rfl rfl Tryz.underlying9 9998 a b a' b' W
theorem use_bool {u v : UseD} : ((u.fMod.toList == v.fMod.toList) && (u.fName.toList == v.fName.toList)) = true ↔ u = v := by
  obtain ⟨a, b⟩ := u
  obtain ⟨c, d⟩ := v
  simp [bytes_iff]
theorem eqField (a : ByteArray) (x y : Int) (a' : ByteArray) (x' y' : Int) (W : World) : (Op.equalIn 10000 135 (.agg #[.string a, .int .i64 x, .int .i64 y]) (.agg #[.string a', .int .i64 x', .int .i64 y'])).run Tryz.prog W = .ok ((a.toList == a'.toList) && ((x == x') && (y == y'))) W :=
  eqSII Tryz.underlying135 (by kernel_rfl) (by decide) (by decide) (by decide) rfl rfl rfl rfl rfl rfl Tryz.underlying9 Tryz.underlying3 a a' x y x' y' W
theorem field_bool {u v : FieldD} : ((u.fName.toList == v.fName.toList) && ((u.fMark == v.fMark) && (u.fType == v.fType))) = true ↔ u = v := by
  obtain ⟨a, b, c⟩ := u
  obtain ⟨a', b', c'⟩ := v
  simp [bytes_iff]
theorem eqParam (a : ByteArray) (x : Bool) (y : Int) (a' : ByteArray) (x' : Bool) (y' : Int) (W : World) : (Op.equalIn 10000 107 (.agg #[.string a, .bool x, .int .i64 y]) (.agg #[.string a', .bool x', .int .i64 y'])).run Tryz.prog W = .ok ((a.toList == a'.toList) && ((x == x') && (y == y'))) W :=
  eqSBI Tryz.underlying107 (by kernel_rfl) (by decide) (by decide) (by decide) rfl rfl rfl rfl rfl rfl Tryz.underlying9 Tryz.underlying4 Tryz.underlying3 a a' x x' y y' W
theorem param_bool {u v : ParamD} : ((u.fName.toList == v.fName.toList) && ((u.fByVar == v.fByVar) && (u.fType == v.fType))) = true ↔ u = v := by
  obtain ⟨a, b, c⟩ := u
  obtain ⟨a', b', c'⟩ := v
  simp [bytes_iff]

set_option maxRecDepth 100000 in
set_option maxHeartbeats 4000000 in
theorem iEqualStr (a a' : Option Addr) (c c' : Nat) (l m : List ByteArray) (w : World) (hl : l.length ≤ 1048576) (hr : Rows strS Any w a l) (hr' : Rows strS Any w a' m) :
    Calls Tryz.prog 132 #[.slice a l.length c, .slice a' m.length c'] w fun e w' => e = .returned (.bool (sameB l m)) ∧ Below w.heap.size w w' := by
  have Hr := Lib.hid hr
  have Hr' := Lib.hid hr'
  clear hr hr'
  by_cases hlen : m.length = l.length
  · rw [hlen]
    have Hlen := Lib.hid hlen
    clear hlen
    go_enter Tryz.func132, Tryz.ntmps132
    go_wp2_with fail
    go_loopw [13] (fun i wr => ∃ k : Nat, i = .int .i64 k ∧ k ≤ l.length ∧ agreeTo l m k ∧ Below w.heap.size w wr) (fun i _ => l.length - (intOf i).toNat)
    case atStart => exact ⟨0, rfl, by omega, agree_zero, Below.refl _ _⟩
    case round =>
      obtain ⟨k, rfl, hk, hto, hbel⟩ := hrel
      have Hto := Lib.hid hto
      clear hto
      by_cases hlt : k < l.length
      · have hlt' : k < m.length := by rw [Hlen.out]; exact hlt
        obtain ⟨b, o, rfl, _, e0⟩ := str_at Hr.out hlt hbel
        obtain ⟨b', o', rfl, _, q0⟩ := str_at Hr'.out hlt' hbel
        have Hbad := Lib.hid (fun h => agree_bad hlt hlt' h)
        have Hnx := Lib.hid (fun h => agree_next hlt hlt' Hto.out h)
        have i1 : (0 : Int) ≤ (k : Int) := by omega
        have i2 : (k : Int) < (l.length : Int) := by omega
        have Hbel := Lib.hid hbel
        clear hbel
        generalize l[k] = t at *
        generalize m[k] = u at *
        clear hlt'
        by_cases he : t = u
        · have hb := bytes_same t u true (by simp [he])
          have Hn := Lib.hid (Hnx.out he)
          clear he
          go_wp2_with fail
          go_quiet (fail)
          go_wp2_with fail
          exact ⟨⟨k + 1, by congr 1, by omega, Hn.out, belowN Hbel.out _⟩, by simp [intOf]; omega⟩
        · have hb := bytes_same t u false (by simp [he])
          have Hv := Lib.hid (Hbad.out he)
          clear he
          go_wp2_with fail
          go_quiet (fail)
          go_wp2_with fail
          go_ret
          exact ⟨by rw [Hv.out]; rfl, belowN Hbel.out _⟩
      · have Hv := Lib.hid (agree_all Hlen.out.symm (show agreeTo l m l.length by rw [← show k = l.length by omega]; exact Hto.out))
        have Hbel := Lib.hid hbel
        clear hbel
        go_wp2_with fail
        go_ret
        exact ⟨by rw [Hv.out]; rfl, Hbel.out⟩
  · have Hv := Lib.hid (agree_len (l := l) (m := m) (fun e => hlen e.symm))
    have h1 : ¬ (l.length : Int) = (m.length : Int) := by omega
    go_enter Tryz.func132, Tryz.ntmps132
    go_wp2_with fail
    go_ret
    exact ⟨by rw [Hv.out]; rfl, Below.refl _ _⟩

set_option maxRecDepth 100000 in
set_option maxHeartbeats 4000000 in
theorem sSameNames (a a' : Option Addr) (c c' : Nat) (l m : List ByteArray) (w : World) (hl : l.length ≤ 1048576) (hr : Rows strS Any w a l) (hr' : Rows strS Any w a' m) :
    Calls Tryz.prog 127 #[.slice a l.length c, .slice a' m.length c'] w fun e w' => e = .returned (.bool (sameB l m)) ∧ Below w.heap.size w w' := by
  have Hr := Lib.hid hr
  have Hr' := Lib.hid hr'
  clear hr hr'
  by_cases hlen : m.length = l.length
  · rw [hlen]
    have Hlen := Lib.hid hlen
    clear hlen
    go_enter Tryz.func127, Tryz.ntmps127
    go_wp2_with fail
    go_loopw [13] (fun i wr => ∃ k : Nat, i = .int .i64 k ∧ k ≤ l.length ∧ agreeTo l m k ∧ Below w.heap.size w wr) (fun i _ => l.length - (intOf i).toNat)
    case atStart => exact ⟨0, rfl, by omega, agree_zero, Below.refl _ _⟩
    case round =>
      obtain ⟨k, rfl, hk, hto, hbel⟩ := hrel
      have Hto := Lib.hid hto
      clear hto
      by_cases hlt : k < l.length
      · have hlt' : k < m.length := by rw [Hlen.out]; exact hlt
        obtain ⟨b, o, rfl, _, e0⟩ := str_at Hr.out hlt hbel
        obtain ⟨b', o', rfl, _, q0⟩ := str_at Hr'.out hlt' hbel
        have Hbad := Lib.hid (fun h => agree_bad hlt hlt' h)
        have Hnx := Lib.hid (fun h => agree_next hlt hlt' Hto.out h)
        have i1 : (0 : Int) ≤ (k : Int) := by omega
        have i2 : (k : Int) < (l.length : Int) := by omega
        have Hbel := Lib.hid hbel
        clear hbel
        generalize l[k] = t at *
        generalize m[k] = u at *
        clear hlt'
        by_cases he : t = u
        · have hb := bytes_same t u true (by simp [he])
          have Hn := Lib.hid (Hnx.out he)
          clear he
          go_wp2_with fail
          go_quiet (fail)
          go_wp2_with fail
          exact ⟨⟨k + 1, by congr 1, by omega, Hn.out, belowN Hbel.out _⟩, by simp [intOf]; omega⟩
        · have hb := bytes_same t u false (by simp [he])
          have Hv := Lib.hid (Hbad.out he)
          clear he
          go_wp2_with fail
          go_quiet (fail)
          go_wp2_with fail
          go_ret
          exact ⟨by rw [Hv.out]; rfl, belowN Hbel.out _⟩
      · have Hv := Lib.hid (agree_all Hlen.out.symm (show agreeTo l m l.length by rw [← show k = l.length by omega]; exact Hto.out))
        have Hbel := Lib.hid hbel
        clear hbel
        go_wp2_with fail
        go_ret
        exact ⟨by rw [Hv.out]; rfl, Hbel.out⟩
  · have Hv := Lib.hid (agree_len (l := l) (m := m) (fun e => hlen e.symm))
    have h1 : ¬ (l.length : Int) = (m.length : Int) := by omega
    go_enter Tryz.func127, Tryz.ntmps127
    go_wp2_with fail
    go_ret
    exact ⟨by rw [Hv.out]; rfl, Below.refl _ _⟩

set_option maxRecDepth 100000 in
set_option maxHeartbeats 4000000 in
theorem iEqualUse (a a' : Option Addr) (c c' : Nat) (l m : List UseD) (w : World) (hl : l.length ≤ 1048576) (hr : Rows useS Any w a l) (hr' : Rows useS Any w a' m) :
    Calls Tryz.prog 137 #[.slice a l.length c, .slice a' m.length c'] w fun e w' => e = .returned (.bool (sameB l m)) ∧ Below w.heap.size w w' := by
  have Hr := Lib.hid hr
  have Hr' := Lib.hid hr'
  clear hr hr'
  by_cases hlen : m.length = l.length
  · rw [hlen]
    have Hlen := Lib.hid hlen
    clear hlen
    go_enter Tryz.func137, Tryz.ntmps137
    go_wp2_with fail
    go_loopw [13] (fun i wr => ∃ k : Nat, i = .int .i64 k ∧ k ≤ l.length ∧ agreeTo l m k ∧ Below w.heap.size w wr) (fun i _ => l.length - (intOf i).toNat)
    case atStart => exact ⟨0, rfl, by omega, agree_zero, Below.refl _ _⟩
    case round =>
      obtain ⟨k, rfl, hk, hto, hbel⟩ := hrel
      have Hto := Lib.hid hto
      clear hto
      by_cases hlt : k < l.length
      · have hlt' : k < m.length := by rw [Hlen.out]; exact hlt
        obtain ⟨b, o, cs, rfl, _, hb1, hc1, hat⟩ := Hr.out k hlt
        obtain ⟨b', o', cs', rfl, _, hb1', hc1', hat'⟩ := Hr'.out k hlt'
        obtain rfl : cs = [.string l[k].fMod, .string l[k].fName] := hat
        obtain rfl : cs' = [.string m[k].fMod, .string m[k].fName] := hat'
        have hn : useS.n = 2 := rfl
        have e0 := (hbel.cell (p := ⟨b, o + k * 2 + 0, none⟩) hb1).trans (hc1 0 (by decide))
        have q0 := (hbel.cell (p := ⟨b', o' + k * 2 + 0, none⟩) hb1').trans (hc1' 0 (by decide))
        have e1 := (hbel.cell (p := ⟨b, o + k * 2 + 1, none⟩) hb1).trans (hc1 1 (by decide))
        have q1 := (hbel.cell (p := ⟨b', o' + k * 2 + 1, none⟩) hb1').trans (hc1' 1 (by decide))
        simp at e0 q0 e1 q1
        clear hc1 hc1'
        have Hbad := Lib.hid (fun h => agree_bad hlt hlt' h)
        have Hnx := Lib.hid (fun h => agree_next hlt hlt' Hto.out h)
        have i1 : (0 : Int) ≤ (k : Int) := by omega
        have i2 : (k : Int) < (l.length : Int) := by omega
        have Hbel := Lib.hid hbel
        clear hbel
        generalize l[k] = t at *
        generalize m[k] = u at *
        clear hlt'
        have heq := eqUse t.fMod t.fName u.fMod u.fName
        by_cases he : t = u
        · rw [use_bool.2 he] at heq
          have Hn := Lib.hid (Hnx.out he)
          clear he
          go_wp2_with fail
          go_quiet (fail)
          go_wp2_with fail
          exact ⟨⟨k + 1, by congr 1, by omega, Hn.out, belowN Hbel.out _⟩, by simp [intOf]; omega⟩
        · rw [Bool.eq_false_iff.2 (fun h => he (use_bool.1 h))] at heq
          have Hv := Lib.hid (Hbad.out he)
          clear he
          go_wp2_with fail
          go_quiet (fail)
          go_wp2_with fail
          go_ret
          exact ⟨by rw [Hv.out]; rfl, belowN Hbel.out _⟩
      · have Hv := Lib.hid (agree_all Hlen.out.symm (show agreeTo l m l.length by rw [← show k = l.length by omega]; exact Hto.out))
        have Hbel := Lib.hid hbel
        clear hbel
        go_wp2_with fail
        go_ret
        exact ⟨by rw [Hv.out]; rfl, Hbel.out⟩
  · have Hv := Lib.hid (agree_len (l := l) (m := m) (fun e => hlen e.symm))
    have h1 : ¬ (l.length : Int) = (m.length : Int) := by omega
    go_enter Tryz.func137, Tryz.ntmps137
    go_wp2_with fail
    go_ret
    exact ⟨by rw [Hv.out]; rfl, Below.refl _ _⟩

set_option maxRecDepth 100000 in
set_option maxHeartbeats 4000000 in
theorem iEqualField (a a' : Option Addr) (c c' : Nat) (l m : List FieldD) (w : World) (hl : l.length ≤ 1048576) (hr : Rows fieldS Any w a l) (hr' : Rows fieldS Any w a' m) :
    Calls Tryz.prog 163 #[.slice a l.length c, .slice a' m.length c'] w fun e w' => e = .returned (.bool (sameB l m)) ∧ Below w.heap.size w w' := by
  have Hr := Lib.hid hr
  have Hr' := Lib.hid hr'
  clear hr hr'
  by_cases hlen : m.length = l.length
  · rw [hlen]
    have Hlen := Lib.hid hlen
    clear hlen
    go_enter Tryz.func163, Tryz.ntmps163
    go_wp2_with fail
    go_loopw [13] (fun i wr => ∃ k : Nat, i = .int .i64 k ∧ k ≤ l.length ∧ agreeTo l m k ∧ Below w.heap.size w wr) (fun i _ => l.length - (intOf i).toNat)
    case atStart => exact ⟨0, rfl, by omega, agree_zero, Below.refl _ _⟩
    case round =>
      obtain ⟨k, rfl, hk, hto, hbel⟩ := hrel
      have Hto := Lib.hid hto
      clear hto
      by_cases hlt : k < l.length
      · have hlt' : k < m.length := by rw [Hlen.out]; exact hlt
        obtain ⟨b, o, cs, rfl, _, hb1, hc1, hat⟩ := Hr.out k hlt
        obtain ⟨b', o', cs', rfl, _, hb1', hc1', hat'⟩ := Hr'.out k hlt'
        obtain rfl : cs = [.string l[k].fName, .int .i64 l[k].fMark, .int .i64 l[k].fType] := hat
        obtain rfl : cs' = [.string m[k].fName, .int .i64 m[k].fMark, .int .i64 m[k].fType] := hat'
        have hn : fieldS.n = 3 := rfl
        have e0 := (hbel.cell (p := ⟨b, o + k * 3 + 0, none⟩) hb1).trans (hc1 0 (by decide))
        have q0 := (hbel.cell (p := ⟨b', o' + k * 3 + 0, none⟩) hb1').trans (hc1' 0 (by decide))
        have e1 := (hbel.cell (p := ⟨b, o + k * 3 + 1, none⟩) hb1).trans (hc1 1 (by decide))
        have q1 := (hbel.cell (p := ⟨b', o' + k * 3 + 1, none⟩) hb1').trans (hc1' 1 (by decide))
        have e2 := (hbel.cell (p := ⟨b, o + k * 3 + 2, none⟩) hb1).trans (hc1 2 (by decide))
        have q2 := (hbel.cell (p := ⟨b', o' + k * 3 + 2, none⟩) hb1').trans (hc1' 2 (by decide))
        simp at e0 q0 e1 q1 e2 q2
        clear hc1 hc1'
        have Hbad := Lib.hid (fun h => agree_bad hlt hlt' h)
        have Hnx := Lib.hid (fun h => agree_next hlt hlt' Hto.out h)
        have i1 : (0 : Int) ≤ (k : Int) := by omega
        have i2 : (k : Int) < (l.length : Int) := by omega
        have Hbel := Lib.hid hbel
        clear hbel
        generalize l[k] = t at *
        generalize m[k] = u at *
        clear hlt'
        have heq := eqField t.fName t.fMark t.fType u.fName u.fMark u.fType
        by_cases he : t = u
        · rw [field_bool.2 he] at heq
          have Hn := Lib.hid (Hnx.out he)
          clear he
          go_wp2_with fail
          go_quiet (fail)
          go_wp2_with fail
          exact ⟨⟨k + 1, by congr 1, by omega, Hn.out, belowN Hbel.out _⟩, by simp [intOf]; omega⟩
        · rw [Bool.eq_false_iff.2 (fun h => he (field_bool.1 h))] at heq
          have Hv := Lib.hid (Hbad.out he)
          clear he
          go_wp2_with fail
          go_quiet (fail)
          go_wp2_with fail
          go_ret
          exact ⟨by rw [Hv.out]; rfl, belowN Hbel.out _⟩
      · have Hv := Lib.hid (agree_all Hlen.out.symm (show agreeTo l m l.length by rw [← show k = l.length by omega]; exact Hto.out))
        have Hbel := Lib.hid hbel
        clear hbel
        go_wp2_with fail
        go_ret
        exact ⟨by rw [Hv.out]; rfl, Hbel.out⟩
  · have Hv := Lib.hid (agree_len (l := l) (m := m) (fun e => hlen e.symm))
    have h1 : ¬ (l.length : Int) = (m.length : Int) := by omega
    go_enter Tryz.func163, Tryz.ntmps163
    go_wp2_with fail
    go_ret
    exact ⟨by rw [Hv.out]; rfl, Below.refl _ _⟩

set_option maxRecDepth 100000 in
set_option maxHeartbeats 4000000 in
theorem iEqualParam (a a' : Option Addr) (c c' : Nat) (l m : List ParamD) (w : World) (hl : l.length ≤ 1048576) (hr : Rows paramS Any w a l) (hr' : Rows paramS Any w a' m) :
    Calls Tryz.prog 164 #[.slice a l.length c, .slice a' m.length c'] w fun e w' => e = .returned (.bool (sameB l m)) ∧ Below w.heap.size w w' := by
  have Hr := Lib.hid hr
  have Hr' := Lib.hid hr'
  clear hr hr'
  by_cases hlen : m.length = l.length
  · rw [hlen]
    have Hlen := Lib.hid hlen
    clear hlen
    go_enter Tryz.func164, Tryz.ntmps164
    go_wp2_with fail
    go_loopw [13] (fun i wr => ∃ k : Nat, i = .int .i64 k ∧ k ≤ l.length ∧ agreeTo l m k ∧ Below w.heap.size w wr) (fun i _ => l.length - (intOf i).toNat)
    case atStart => exact ⟨0, rfl, by omega, agree_zero, Below.refl _ _⟩
    case round =>
      obtain ⟨k, rfl, hk, hto, hbel⟩ := hrel
      have Hto := Lib.hid hto
      clear hto
      by_cases hlt : k < l.length
      · have hlt' : k < m.length := by rw [Hlen.out]; exact hlt
        obtain ⟨b, o, cs, rfl, _, hb1, hc1, hat⟩ := Hr.out k hlt
        obtain ⟨b', o', cs', rfl, _, hb1', hc1', hat'⟩ := Hr'.out k hlt'
        obtain rfl : cs = [.string l[k].fName, .bool l[k].fByVar, .int .i64 l[k].fType] := hat
        obtain rfl : cs' = [.string m[k].fName, .bool m[k].fByVar, .int .i64 m[k].fType] := hat'
        have hn : paramS.n = 3 := rfl
        have e0 := (hbel.cell (p := ⟨b, o + k * 3 + 0, none⟩) hb1).trans (hc1 0 (by decide))
        have q0 := (hbel.cell (p := ⟨b', o' + k * 3 + 0, none⟩) hb1').trans (hc1' 0 (by decide))
        have e1 := (hbel.cell (p := ⟨b, o + k * 3 + 1, none⟩) hb1).trans (hc1 1 (by decide))
        have q1 := (hbel.cell (p := ⟨b', o' + k * 3 + 1, none⟩) hb1').trans (hc1' 1 (by decide))
        have e2 := (hbel.cell (p := ⟨b, o + k * 3 + 2, none⟩) hb1).trans (hc1 2 (by decide))
        have q2 := (hbel.cell (p := ⟨b', o' + k * 3 + 2, none⟩) hb1').trans (hc1' 2 (by decide))
        simp at e0 q0 e1 q1 e2 q2
        clear hc1 hc1'
        have Hbad := Lib.hid (fun h => agree_bad hlt hlt' h)
        have Hnx := Lib.hid (fun h => agree_next hlt hlt' Hto.out h)
        have i1 : (0 : Int) ≤ (k : Int) := by omega
        have i2 : (k : Int) < (l.length : Int) := by omega
        have Hbel := Lib.hid hbel
        clear hbel
        generalize l[k] = t at *
        generalize m[k] = u at *
        clear hlt'
        have heq := eqParam t.fName t.fByVar t.fType u.fName u.fByVar u.fType
        by_cases he : t = u
        · rw [param_bool.2 he] at heq
          have Hn := Lib.hid (Hnx.out he)
          clear he
          go_wp2_with fail
          go_quiet (fail)
          go_wp2_with fail
          exact ⟨⟨k + 1, by congr 1, by omega, Hn.out, belowN Hbel.out _⟩, by simp [intOf]; omega⟩
        · rw [Bool.eq_false_iff.2 (fun h => he (param_bool.1 h))] at heq
          have Hv := Lib.hid (Hbad.out he)
          clear he
          go_wp2_with fail
          go_quiet (fail)
          go_wp2_with fail
          go_ret
          exact ⟨by rw [Hv.out]; rfl, belowN Hbel.out _⟩
      · have Hv := Lib.hid (agree_all Hlen.out.symm (show agreeTo l m l.length by rw [← show k = l.length by omega]; exact Hto.out))
        have Hbel := Lib.hid hbel
        clear hbel
        go_wp2_with fail
        go_ret
        exact ⟨by rw [Hv.out]; rfl, Hbel.out⟩
  · have Hv := Lib.hid (agree_len (l := l) (m := m) (fun e => hlen e.symm))
    have h1 : ¬ (l.length : Int) = (m.length : Int) := by omega
    go_enter Tryz.func164, Tryz.ntmps164
    go_wp2_with fail
    go_ret
    exact ⟨by rw [Hv.out]; rfl, Below.refl _ _⟩
end Go.Proofs.YtaccifjkeblhpaaGreat
