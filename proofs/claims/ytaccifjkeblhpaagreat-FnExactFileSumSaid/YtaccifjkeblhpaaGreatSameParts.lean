
/-
  What is proved: the contract of the program's headOfObject; contracts of the program's sameType, sameObject. No condition beside what each theorem states.
-/
import Derived.Test.YtaccifjkeblhpaaGreatStObject
import Derived.Test.YtaccifjkeblhpaaGreatSameLists
import Derived.Deep.RegionHeld3
namespace Go.Proofs.YtaccifjkeblhpaaGreat
open Go.ChangeShapes Go.WideShapes Go.ChangeAt Go.RowKit

theorem sizeHeadO : (Tryz.prog.info? 120).map (·.size) = some 5 := by kernel_rfl
theorem iHeadObj (nm : ByteArray) (kd mk ty vl : Int) (a5 : Option Addr) (n5 c5 : Nat) (w : World) :
    Calls Tryz.prog 77 #[.agg #[.string nm, .int .i64 kd, .int .i64 mk, .int .i64 ty, .int .i64 vl, .slice a5 n5 c5]] w fun e w' => e = .returned (.agg #[.string nm, .int .i64 mk, .int .i64 kd, .int .i64 vl, .int .i64 (n5 : Int)]) ∧ Below w.heap.size w w' := by
  go_enter Tryz.func77, Tryz.ntmps77
  go_wp2_with fail
  refine bodyPost_ret (results_one rfl Tryz.underlying120 rfl _ _ (w.heap.size + 1) #[.string nm, .int .i64 mk, .int .i64 kd, .int .i64 vl, .int .i64 (n5 : Int)] rfl 120 (Box.new' _ _ _ (by simp)) 5 sizeHeadO rfl) rfl ?_
  exact ⟨rfl, ((Below.refl _ _).alloc (Nat.le_refl _) _).alloc (by simp) _⟩
end Go.Proofs.YtaccifjkeblhpaaGreat

namespace Go.Proofs.YtaccifjkeblhpaaGreat
open Go.ChangeShapes Go.WideShapes Go.ChangeAt Go.RowKit

open Classical in
noncomputable def eqB {T : Type} (t u : T) : Bool := decide (t = u)
theorem eqB_true {T : Type} {t u : T} (h : t = u) : eqB t u = true := by unfold eqB; simpa using h
theorem eqB_false {T : Type} {t u : T} (h : ¬ t = u) : eqB t u = false := by unfold eqB; simpa using h
theorem eqSI {P : Program} {t s i : TypeId} {f0 f1 : Field} (hk : P.underlying t = some (.struct #[f0, f1])) (hp : P.stoodInHeld t = false)
    (n0 : (f0.name != "_") = true) (n1 : (f1.name != "_") = true) (t0 : f0.type = s) (t1 : f1.type = i) (o0 : f0.offset = 0) (o1 : f1.offset = 1) (hs : P.underlying s = some .string) (hi : P.underlying i = some (.int .i64))
    (d : Nat) (a a' : ByteArray) (x x' : Int) (W : World) : (Op.equalIn (d + 1 + 1) t (.agg #[.string a, .int .i64 x]) (.agg #[.string a', .int .i64 x'])).run P W = .ok ((a.toList == a'.toList) && (x == x')) W := by
  have hf : P.fieldsOf t = #[f0, f1] := by unfold Program.fieldsOf; rw [hk]
  have ps := part_cell (P := P) (s := s) (by rw [hs])
  have pi := part_cell (P := P) (s := i) (by rw [hi])
  rw [bne_iff_ne] at n0 n1
  rw [run_equalIn_struct W (d + 1) t _ _ (by rw [hf]; exact hk) hp, hf]
  simp only [Op.eqFields, n0, n1, ne_eq, not_false_eq_true, if_true, t0, t1, o0, o1]
  cases h0 : (a.toList == a'.toList) <;> cases h1 : (x == x') <;>
    simp [Sem.run_bind, ps, pi, run_equalIn_string _ d s _ _ hs, run_equalIn_int _ d i _ _ _ _ hi, Result.andThen, h0, h1]
theorem eqNest {P : Program} {t c i s : TypeId} {f0 f1 f2 f3 g0 g1 : Field} (hk : P.underlying t = some (.struct #[f0, f1, f2, f3])) (hp : P.stoodInHeld t = false)
    (n0 : (f0.name != "_") = true) (n1 : (f1.name != "_") = true) (n2 : (f2.name != "_") = true) (n3 : (f3.name != "_") = true)
    (t0 : f0.type = c) (t1 : f1.type = i) (t2 : f2.type = i) (t3 : f3.type = i)
    (o0 : f0.offset = 0) (o1 : f1.offset = 2) (o2 : f2.offset = 3) (o3 : f3.offset = 4)
    (hc : P.underlying c = some (.struct #[g0, g1])) (hcp : P.stoodInHeld c = false) (m0 : (g0.name != "_") = true) (m1 : (g1.name != "_") = true) (u0 : g0.type = s) (u1 : g1.type = i) (q0 : g0.offset = 0) (q1 : g1.offset = 1) (hcs : (P.info? c).map (·.size) = some 2)
    (hs : P.underlying s = some .string) (hi : P.underlying i = some (.int .i64))
    (a a' : ByteArray) (x k v n x' k' v' n' : Int) (W : World) : (Op.equalIn 10000 t (.agg #[.string a, .int .i64 x, .int .i64 k, .int .i64 v, .int .i64 n]) (.agg #[.string a', .int .i64 x', .int .i64 k', .int .i64 v', .int .i64 n'])).run P W =
    .ok ((a.toList == a'.toList) && ((x == x') && ((k == k') && ((v == v') && (n == n'))))) W := by
  have hf : P.fieldsOf t = #[f0, f1, f2, f3] := by unfold Program.fieldsOf; rw [hk]
  have pc : ∀ (cs : Array Value) (W : World), (part c cs 0).run P W = .ok (.agg (cs.extract 0 2)) W := fun cs W => by
    cases hq : P.info? c with
    | none => rw [hq] at hcs; cases hcs
    | some i0 =>
      have : i0.size = 2 := by rw [hq] at hcs; simpa using hcs
      simp [part, isAgg, run_underlying hc, Result.andThen, sizeOf, typeInfo, hq, this]
  have pi := part_cell (P := P) (s := i) (by rw [hi])
  have e2 := eqSI hc hcp m0 m1 u0 u1 q0 q1 hs hi 9997
  rw [bne_iff_ne] at n0 n1 n2 n3
  rw [show (10000 : Nat) = 9997 + 1 + 1 + 1 from rfl, run_equalIn_struct W (9997 + 1 + 1) t _ _ (by rw [hf]; exact hk) hp, hf]
  simp only [Op.eqFields, n0, n1, n2, n3, ne_eq, not_false_eq_true, if_true, t0, t1, t2, t3, o0, o1, o2, o3]
  cases h0 : (a.toList == a'.toList) <;> cases h1 : (x == x') <;> cases h2 : (k == k') <;> cases h3 : (v == v') <;> cases h4 : (n == n') <;>
    simp [Sem.run_bind, pc, pi, e2, run_equalIn_int _ (9997 + 1) i _ _ _ _ hi, Result.andThen, h0, h1, h2, h3, h4]
theorem eqHeadO (a : ByteArray) (x k v n : Int) (a' : ByteArray) (x' k' v' n' : Int) (W : World) : (Op.equalIn 10000 120 (.agg #[.string a, .int .i64 x, .int .i64 k, .int .i64 v, .int .i64 n]) (.agg #[.string a', .int .i64 x', .int .i64 k', .int .i64 v', .int .i64 n'])).run Tryz.prog W =
    .ok ((a.toList == a'.toList) && ((x == x') && ((k == k') && ((v == v') && (n == n'))))) W :=
  eqNest Tryz.underlying120 (by kernel_rfl) (by decide) (by decide) (by decide) (by decide) rfl rfl rfl rfl rfl rfl rfl rfl Tryz.underlying118 (by kernel_rfl) (by decide) (by decide) rfl rfl rfl rfl (by kernel_rfl) Tryz.underlying9 Tryz.underlying3 a a' x k v n x' k' v' n' W
/-- Objects whose heads are the same. -/
def headsO (t u : ObjectD) : Prop := t.fName = u.fName ∧ t.fMark = u.fMark ∧ t.fKind = u.fKind ∧ t.fValue = u.fValue ∧ t.fParams.length = u.fParams.length
theorem headsO_bool {t u : ObjectD} : ((t.fName.toList == u.fName.toList) && ((t.fMark == u.fMark) && ((t.fKind == u.fKind) && ((t.fValue == u.fValue) && ((t.fParams.length : Int) == (u.fParams.length : Int)))))) = true ↔ headsO t u := by
  unfold headsO
  have e : ((t.fParams.length : Int) = (u.fParams.length : Int)) ↔ t.fParams.length = u.fParams.length := by omega
  simp [bytes_iff, e]
theorem object_eq {t u : ObjectD} (h : headsO t u) (h1 : t.fType = u.fType) (h2 : t.fParams = u.fParams) : t = u := by
  obtain ⟨a, b, c, d, e, f⟩ := t
  obtain ⟨a', b', c', d', e', f'⟩ := u
  obtain ⟨g1, g2, g3, g4, _⟩ := h
  simp only at *
  subst g1 g2 g3 g4 h1 h2
  rfl
theorem type_eq {t u : TypeD} (h : headsEq t u) (h1 : t.fBase = u.fBase) (h2 : t.fFields = u.fFields) : t = u := by
  obtain ⟨a, b, c, d, e, f⟩ := t
  obtain ⟨a', b', c', d', e', f'⟩ := u
  obtain ⟨g1, g2, g3, g4, _⟩ := h
  simp only at *
  subst g1 g2 g3 g4 h1 h2
  rfl
theorem headsO_refl (t : ObjectD) : headsO t t := ⟨rfl, rfl, rfl, rfl, rfl⟩
theorem headsEq_refl (t : TypeD) : headsEq t t := ⟨rfl, rfl, rfl, rfl, rfl, Iff.rfl⟩

set_option maxRecDepth 100000 in
set_option maxHeartbeats 8000000 in
theorem iSameType (t u : TypeD) (a3 b3 : Option Addr) (c3 d3 : Nat) (w : World) (hl : t.fFields.length ≤ 1048576) (hr : Rows fieldS Any w a3 t.fFields) (hr' : Rows fieldS Any w b3 u.fFields) :
    Calls Tryz.prog 134 #[.agg #[.int .i64 t.fKind, .int .i64 t.fLong, .int .i64 t.fBase, .slice a3 t.fFields.length c3, .string t.fOwner, .string t.fName], .agg #[.int .i64 u.fKind, .int .i64 u.fLong, .int .i64 u.fBase, .slice b3 u.fFields.length d3, .string u.fOwner, .string u.fName]] w fun e w' => e = .returned (.bool (eqB t u)) ∧ Below w.heap.size w w' := by
  have HB := Lib.hid (belowN (((Below.refl w.heap.size w).alloc (Nat.le_refl _) (.cells #[.int .i64 t.fKind, .int .i64 t.fLong, .int .i64 t.fBase, .slice a3 t.fFields.length c3, .string t.fOwner, .string t.fName] 72)).alloc (by simp) (.cells #[.int .i64 u.fKind, .int .i64 u.fLong, .int .i64 u.fBase, .slice b3 u.fFields.length d3, .string u.fOwner, .string u.fName] 72)) 1)
  have HR := Lib.hid (hr.below HB.out)
  have HR' := Lib.hid (hr'.below HB.out)
  clear hr hr'
  have heq := eqHeads t.fOwner t.fName u.fOwner u.fName t.fKind t.fLong t.fFields.length u.fKind u.fLong u.fFields.length (t.fBase != -1) (u.fBase != -1)
  obtain ⟨hq, hhq⟩ : ∃ hq : Bool, ((t.fOwner.toList == u.fOwner.toList) && ((t.fName.toList == u.fName.toList) && ((t.fKind == u.fKind) && ((t.fLong == u.fLong) && (((t.fFields.length : Int) == (u.fFields.length : Int)) && ((t.fBase != -1) == (u.fBase != -1))))))) = hq := ⟨_, rfl⟩
  rw [hhq] at heq
  have Hhq := Lib.hid hhq
  clear hhq
  obtain ⟨bq, hbq⟩ : ∃ bq : Bool, (t.fBase == u.fBase) = bq := ⟨_, rfl⟩
  have Hbq := Lib.hid hbq
  clear hbq
  obtain ⟨sq, hsq⟩ : ∃ sq : Bool, sameB t.fFields u.fFields = sq := ⟨_, rfl⟩
  have Hsq := Lib.hid hsq
  clear hsq
  have Hv := Lib.hid (show eqB t u = (hq && (bq && sq)) by
    have e1 := Hhq.out
    have e2 := Hbq.out
    have e3 := Hsq.out
    by_cases h : t = u
    · subst h
      have g1 := heads_bool.2 (headsEq_refl t)
      rw [e1] at g1
      have g3 := sameB_true (rfl : t.fFields = t.fFields)
      rw [e3] at g3
      have g2 : bq = true := by rw [← e2]; simp
      rw [eqB_true rfl, g1, g2, g3]
      rfl
    · rw [eqB_false h]
      cases hq with
      | false => rfl
      | true =>
        cases bq with
        | false => rfl
        | true =>
          cases sq with
          | false => rfl
          | true => exact absurd (type_eq (heads_bool.1 e1) (by simpa using e2) (sameB_iff.1 e3)) h)
  go_enter Tryz.func134, Tryz.ntmps134
  cases hq with
  | false =>
    go_wp2_with fail
    refine wp_region_held_drew (S := fun w' => w'.cell? ⟨w.heap.size, 0, none⟩ = some (.int .i64 t.fKind) ∧ w'.cell? ⟨w.heap.size, 1, none⟩ = some (.int .i64 t.fLong) ∧ w'.cell? ⟨w.heap.size, 2, none⟩ = some (.int .i64 t.fBase) ∧ w'.cell? ⟨w.heap.size, 3, none⟩ = some (.slice a3 t.fFields.length c3) ∧ w'.cell? ⟨w.heap.size, 4, none⟩ = some (.string t.fOwner) ∧ w'.cell? ⟨w.heap.size, 5, none⟩ = some (.string t.fName) ∧ w'.cell? ⟨(w.heap.size + 1), 0, none⟩ = some (.int .i64 u.fKind) ∧ w'.cell? ⟨(w.heap.size + 1), 1, none⟩ = some (.int .i64 u.fLong) ∧ w'.cell? ⟨(w.heap.size + 1), 2, none⟩ = some (.int .i64 u.fBase) ∧ w'.cell? ⟨(w.heap.size + 1), 3, none⟩ = some (.slice b3 u.fFields.length d3) ∧ w'.cell? ⟨(w.heap.size + 1), 4, none⟩ = some (.string u.fOwner) ∧ w'.cell? ⟨(w.heap.size + 1), 5, none⟩ = some (.string u.fName)) (by kernel_rfl) ?_ (fun hHeld => ?_)
    · try dsimp only
      go_keep
    refine wpAnyH_take (i := 0) (oi := { dst := some 5, op := Op.load 72 (Operand.tmp 2), type := 72, pos := "l4_scope.go:363", after := #[], guard := none }) (v := .agg #[.int .i64 t.fKind, .int .i64 t.fLong, .int .i64 t.fBase, .slice a3 t.fFields.length c3, .string t.fOwner, .string t.fName]) rfl (by kernel_rfl) (by kernel_rfl) (by kernel_rfl) (fun _ _ _ h => h) (Or.inl ⟨by rfl, ?_⟩) (by assumption) ?_
    · intro wS hSw
      try dsimp only at hSw
      go_simp
    try simp only [Act.put, List.setIfInBounds_toArray, List.set_cons_zero, List.set_cons_succ]
    refine wpAnyH_take (i := 2) (oi := { dst := some 7, op := Op.load 72 (Operand.tmp 3), type := 72, pos := "l4_scope.go:363", after := #[], guard := none }) (v := .agg #[.int .i64 u.fKind, .int .i64 u.fLong, .int .i64 u.fBase, .slice b3 u.fFields.length d3, .string u.fOwner, .string u.fName]) rfl (by kernel_rfl) (by kernel_rfl) (by kernel_rfl) (fun _ _ _ h => h) (Or.inl ⟨by rfl, ?_⟩) (by assumption) ?_
    · intro wS hSw
      try dsimp only at hSw
      go_simp
    try simp only [Act.put, List.setIfInBounds_toArray, List.set_cons_zero, List.set_cons_succ]
    refine wpAnyH_ready (rs := [1]) (by kernel_rfl) (by simp) ?_
    refine AllReadyH.cons (o := { dst := some 6, op := Op.call { callee := Callee.value (Operand.func 151), args := #[Operand.tmp 5], argTypes := #[72] }, type := 182, pos := "l4_scope.go:363", after := #[{ on := 0, ground := Ground.data }], guard := none }) rfl (fun K hK => ?_) AllReadyH.nil
    go_simp
    go_at_call 151
    refine (iHeadOf _ _ _ _ _ _ _ _ _).mono ?_
    rintro e wh ⟨rfl, hbh⟩
    have hsz := hbh.size
    replace HB := Lib.hid (HB.out.trans (hbh.mono HB.out.size))
    replace HR := Lib.hid (HR.out.below hbh)
    replace HR' := Lib.hid (HR'.out.below hbh)
    refine hK.out _ _ ?_ (fun hHeld2 => ?_)
    · try dsimp only
      first
        | go_keep
        | (go_split_ands
           refine ⟨?_, ?_, ?_, ?_, ?_, ?_, ?_, ?_, ?_, ?_, ?_, ?_⟩ <;> (rw [hbh.cell (by first | (simp at *; omega) | (simp at *; done) | omega)]; assumption))
    clear hK K hHeld
    have hHeld := hHeld2
    clear hHeld2
    try simp only [Act.put, List.setIfInBounds_toArray, List.set_cons_zero, List.set_cons_succ]
    refine wpAnyH_ready (rs := [3]) (by kernel_rfl) (by simp) ?_
    refine AllReadyH.cons (o := { dst := some 8, op := Op.call { callee := Callee.value (Operand.func 151), args := #[Operand.tmp 7], argTypes := #[72] }, type := 182, pos := "l4_scope.go:363", after := #[{ on := 2, ground := Ground.data }, { on := 1, ground := Ground.chain }], guard := none }) rfl (fun K hK => ?_) AllReadyH.nil
    go_simp
    go_at_call 151
    refine (iHeadOf _ _ _ _ _ _ _ _ _).mono ?_
    rintro e wh ⟨rfl, hbh⟩
    have hsz := hbh.size
    replace HB := Lib.hid (HB.out.trans (hbh.mono HB.out.size))
    replace HR := Lib.hid (HR.out.below hbh)
    replace HR' := Lib.hid (HR'.out.below hbh)
    refine hK.out _ _ ?_ (fun hHeld2 => ?_)
    · try dsimp only
      first
        | go_keep
        | (go_split_ands
           refine ⟨?_, ?_, ?_, ?_, ?_, ?_, ?_, ?_, ?_, ?_, ?_, ?_⟩ <;> (rw [hbh.cell (by first | (simp at *; omega) | (simp at *; done) | omega)]; assumption))
    clear hK K hHeld
    have hHeld := hHeld2
    clear hHeld2
    try simp only [Act.put, List.setIfInBounds_toArray, List.set_cons_zero, List.set_cons_succ]
    refine wpAnyH_take (i := 4) (oi := { dst := some 9, op := Op.binOp BinOp.eql 182 (Operand.tmp 6) (Operand.tmp 8) 182, type := 4, pos := "l4_scope.go:363", after := #[{ on := 1, ground := Ground.data }, { on := 3, ground := Ground.data }], guard := none }) (v := .bool false) rfl (by kernel_rfl) (by kernel_rfl) (by kernel_rfl) (fun _ _ _ h => h) (Or.inl ⟨by rfl, ?_⟩) (by assumption) ?_
    · intro wS hSw
      try dsimp only at hSw
      go_simp
    try simp only [Act.put, List.setIfInBounds_toArray, List.set_cons_zero, List.set_cons_succ]
    refine wpAnyH_take (i := 5) (oi := { dst := some 10, op := Op.move (Operand.tmp 9), type := 4, pos := "l4_scope.go:363", after := #[{ on := 4, ground := Ground.data }, { on := 3, ground := Ground.chain }], guard := none }) (v := .bool false) rfl (by kernel_rfl) (by kernel_rfl) (by kernel_rfl) (fun _ _ _ h => h) (Or.inl ⟨by rfl, ?_⟩) (by assumption) ?_
    · intro wS hSw
      try dsimp only at hSw
      go_simp
    try simp only [Act.put, List.setIfInBounds_toArray, List.set_cons_zero, List.set_cons_succ]
    refine wpAnyH_take (i := 6) (oi := { dst := some 11, op := Op.fieldAddr 72 (Operand.tmp 2) 2, type := 0, pos := "l4_scope.go:363", after := #[{ on := 5, ground := Ground.guard }], guard := some (5, true) }) (v := undef) rfl (by kernel_rfl) (by kernel_rfl) (by kernel_rfl) (fun _ _ _ h => h) (Or.inr ⟨by rfl, rfl⟩) (by assumption) ?_
    try simp only [Act.put, List.setIfInBounds_toArray, List.set_cons_zero, List.set_cons_succ]
    refine wpAnyH_take (i := 7) (oi := { dst := some 12, op := Op.load 3 (Operand.tmp 11), type := 3, pos := "l4_scope.go:363", after := #[{ on := 6, ground := Ground.data }, { on := 5, ground := Ground.guard }], guard := some (5, true) }) (v := undef) rfl (by kernel_rfl) (by kernel_rfl) (by kernel_rfl) (fun _ _ _ h => h) (Or.inr ⟨by rfl, rfl⟩) (by assumption) ?_
    try simp only [Act.put, List.setIfInBounds_toArray, List.set_cons_zero, List.set_cons_succ]
    refine wpAnyH_take (i := 8) (oi := { dst := some 13, op := Op.fieldAddr 72 (Operand.tmp 3) 2, type := 0, pos := "l4_scope.go:363", after := #[{ on := 5, ground := Ground.guard }], guard := some (5, true) }) (v := undef) rfl (by kernel_rfl) (by kernel_rfl) (by kernel_rfl) (fun _ _ _ h => h) (Or.inr ⟨by rfl, rfl⟩) (by assumption) ?_
    try simp only [Act.put, List.setIfInBounds_toArray, List.set_cons_zero, List.set_cons_succ]
    refine wpAnyH_take (i := 9) (oi := { dst := some 14, op := Op.load 3 (Operand.tmp 13), type := 3, pos := "l4_scope.go:363", after := #[{ on := 8, ground := Ground.data }, { on := 5, ground := Ground.guard }], guard := some (5, true) }) (v := undef) rfl (by kernel_rfl) (by kernel_rfl) (by kernel_rfl) (fun _ _ _ h => h) (Or.inr ⟨by rfl, rfl⟩) (by assumption) ?_
    try simp only [Act.put, List.setIfInBounds_toArray, List.set_cons_zero, List.set_cons_succ]
    refine wpAnyH_take (i := 10) (oi := { dst := some 15, op := Op.binOp BinOp.eql 3 (Operand.tmp 12) (Operand.tmp 14) 3, type := 4, pos := "l4_scope.go:363", after := #[{ on := 7, ground := Ground.data }, { on := 9, ground := Ground.data }, { on := 5, ground := Ground.guard }], guard := some (5, true) }) (v := undef) rfl (by kernel_rfl) (by kernel_rfl) (by kernel_rfl) (fun _ _ _ h => h) (Or.inr ⟨by rfl, rfl⟩) (by assumption) ?_
    try simp only [Act.put, List.setIfInBounds_toArray, List.set_cons_zero, List.set_cons_succ]
    refine wpAnyH_take (i := 11) (oi := { dst := some 16, op := Op.pick (Operand.tmp 10) (Operand.tmp 15) (Operand.const (Value.bool false)), type := 4, pos := "l4_scope.go:363", after := #[{ on := 5, ground := Ground.data }, { on := 10, ground := Ground.data }], guard := none }) (v := .bool false) rfl (by kernel_rfl) (by kernel_rfl) (by kernel_rfl) (fun _ _ _ h => h) (Or.inl ⟨by rfl, ?_⟩) (by assumption) ?_
    · intro wS hSw
      try dsimp only at hSw
      go_simp
    try simp only [Act.put, List.setIfInBounds_toArray, List.set_cons_zero, List.set_cons_succ]
    refine wpAnyH_take (i := 12) (oi := { dst := some 17, op := Op.move (Operand.tmp 16), type := 4, pos := "l4_scope.go:363", after := #[{ on := 11, ground := Ground.data }, { on := 5, ground := Ground.chain }], guard := none }) (v := .bool false) rfl (by kernel_rfl) (by kernel_rfl) (by kernel_rfl) (fun _ _ _ h => h) (Or.inl ⟨by rfl, ?_⟩) (by assumption) ?_
    · intro wS hSw
      try dsimp only at hSw
      go_simp
    try simp only [Act.put, List.setIfInBounds_toArray, List.set_cons_zero, List.set_cons_succ]
    refine wpAnyH_take (i := 13) (oi := { dst := some 18, op := Op.fieldAddr 72 (Operand.tmp 2) 3, type := 0, pos := "l4_scope.go:363", after := #[{ on := 12, ground := Ground.guard }], guard := some (12, true) }) (v := undef) rfl (by kernel_rfl) (by kernel_rfl) (by kernel_rfl) (fun _ _ _ h => h) (Or.inr ⟨by rfl, rfl⟩) (by assumption) ?_
    try simp only [Act.put, List.setIfInBounds_toArray, List.set_cons_zero, List.set_cons_succ]
    refine wpAnyH_take (i := 14) (oi := { dst := some 19, op := Op.load 70 (Operand.tmp 18), type := 70, pos := "l4_scope.go:363", after := #[{ on := 13, ground := Ground.data }, { on := 12, ground := Ground.guard }], guard := some (12, true) }) (v := undef) rfl (by kernel_rfl) (by kernel_rfl) (by kernel_rfl) (fun _ _ _ h => h) (Or.inr ⟨by rfl, rfl⟩) (by assumption) ?_
    try simp only [Act.put, List.setIfInBounds_toArray, List.set_cons_zero, List.set_cons_succ]
    refine wpAnyH_take (i := 15) (oi := { dst := some 20, op := Op.fieldAddr 72 (Operand.tmp 3) 3, type := 0, pos := "l4_scope.go:363", after := #[{ on := 12, ground := Ground.guard }], guard := some (12, true) }) (v := undef) rfl (by kernel_rfl) (by kernel_rfl) (by kernel_rfl) (fun _ _ _ h => h) (Or.inr ⟨by rfl, rfl⟩) (by assumption) ?_
    try simp only [Act.put, List.setIfInBounds_toArray, List.set_cons_zero, List.set_cons_succ]
    refine wpAnyH_take (i := 16) (oi := { dst := some 21, op := Op.load 70 (Operand.tmp 20), type := 70, pos := "l4_scope.go:363", after := #[{ on := 15, ground := Ground.data }, { on := 12, ground := Ground.guard }], guard := some (12, true) }) (v := undef) rfl (by kernel_rfl) (by kernel_rfl) (by kernel_rfl) (fun _ _ _ h => h) (Or.inr ⟨by rfl, rfl⟩) (by assumption) ?_
    try simp only [Act.put, List.setIfInBounds_toArray, List.set_cons_zero, List.set_cons_succ]
    refine wpAnyH_take (i := 17) (oi := { dst := some 22, op := Op.call { callee := Callee.value (Operand.func 163), args := #[Operand.tmp 19, Operand.tmp 21], argTypes := #[70, 70] }, type := 4, pos := "l4_scope.go:363", after := #[{ on := 14, ground := Ground.data }, { on := 16, ground := Ground.data }, { on := 12, ground := Ground.chain }, { on := 12, ground := Ground.guard }], guard := some (12, true) }) (v := undef) rfl (by kernel_rfl) (by kernel_rfl) (by kernel_rfl) (fun _ _ _ h => h) (Or.inr ⟨by rfl, rfl⟩) (by assumption) ?_
    try simp only [Act.put, List.setIfInBounds_toArray, List.set_cons_zero, List.set_cons_succ]
    refine wpAnyH_take (i := 18) (oi := { dst := some 23, op := Op.pick (Operand.tmp 17) (Operand.tmp 22) (Operand.const (Value.bool false)), type := 4, pos := "l4_scope.go:363", after := #[{ on := 12, ground := Ground.data }, { on := 17, ground := Ground.data }], guard := none }) (v := .bool false) rfl (by kernel_rfl) (by kernel_rfl) (by kernel_rfl) (fun _ _ _ h => h) (Or.inl ⟨by rfl, ?_⟩) (by assumption) ?_
    · intro wS hSw
      try dsimp only at hSw
      go_simp
    try simp only [Act.put, List.setIfInBounds_toArray, List.set_cons_zero, List.set_cons_succ]
    refine wpAnyH_take (i := 19) (oi := { dst := some 4, op := Op.assign (Operand.tmp 23), type := 4, pos := "l4_scope.go:363", after := #[{ on := 18, ground := Ground.data }, { on := 17, ground := Ground.chain }, { on := 0, ground := Ground.phase }, { on := 1, ground := Ground.phase }, { on := 2, ground := Ground.phase }, { on := 3, ground := Ground.phase }, { on := 4, ground := Ground.phase }, { on := 5, ground := Ground.phase }, { on := 6, ground := Ground.phase }, { on := 7, ground := Ground.phase }, { on := 8, ground := Ground.phase }, { on := 9, ground := Ground.phase }, { on := 10, ground := Ground.phase }, { on := 11, ground := Ground.phase }, { on := 12, ground := Ground.phase }, { on := 13, ground := Ground.phase }, { on := 14, ground := Ground.phase }, { on := 15, ground := Ground.phase }, { on := 16, ground := Ground.phase }, { on := 17, ground := Ground.phase }, { on := 18, ground := Ground.phase }], guard := none }) (v := .bool false) rfl (by kernel_rfl) (by kernel_rfl) (by kernel_rfl) (fun _ _ _ h => h) (Or.inl ⟨by rfl, ?_⟩) (by assumption) ?_
    · intro wS hSw
      try dsimp only at hSw
      go_simp
    try simp only [Act.put, List.setIfInBounds_toArray, List.set_cons_zero, List.set_cons_succ]
    refine wpAnyH_done (by kernel_rfl) ?_ _
    go_wp2_with fail
    go_ret
    exact ⟨by rw [Hv.out]; rfl, HB.out⟩
  | true =>
    cases bq with
    | false =>
      have p01 := Hbq.out
      have p0 := beq_eq_false_iff_ne.1 Hbq.out
      go_wp2_with fail
      refine wp_region_held_drew (S := fun w' => w'.cell? ⟨w.heap.size, 0, none⟩ = some (.int .i64 t.fKind) ∧ w'.cell? ⟨w.heap.size, 1, none⟩ = some (.int .i64 t.fLong) ∧ w'.cell? ⟨w.heap.size, 2, none⟩ = some (.int .i64 t.fBase) ∧ w'.cell? ⟨w.heap.size, 3, none⟩ = some (.slice a3 t.fFields.length c3) ∧ w'.cell? ⟨w.heap.size, 4, none⟩ = some (.string t.fOwner) ∧ w'.cell? ⟨w.heap.size, 5, none⟩ = some (.string t.fName) ∧ w'.cell? ⟨(w.heap.size + 1), 0, none⟩ = some (.int .i64 u.fKind) ∧ w'.cell? ⟨(w.heap.size + 1), 1, none⟩ = some (.int .i64 u.fLong) ∧ w'.cell? ⟨(w.heap.size + 1), 2, none⟩ = some (.int .i64 u.fBase) ∧ w'.cell? ⟨(w.heap.size + 1), 3, none⟩ = some (.slice b3 u.fFields.length d3) ∧ w'.cell? ⟨(w.heap.size + 1), 4, none⟩ = some (.string u.fOwner) ∧ w'.cell? ⟨(w.heap.size + 1), 5, none⟩ = some (.string u.fName)) (by kernel_rfl) ?_ (fun hHeld => ?_)
      · try dsimp only
        go_keep
      refine wpAnyH_take (i := 0) (oi := { dst := some 5, op := Op.load 72 (Operand.tmp 2), type := 72, pos := "l4_scope.go:363", after := #[], guard := none }) (v := .agg #[.int .i64 t.fKind, .int .i64 t.fLong, .int .i64 t.fBase, .slice a3 t.fFields.length c3, .string t.fOwner, .string t.fName]) rfl (by kernel_rfl) (by kernel_rfl) (by kernel_rfl) (fun _ _ _ h => h) (Or.inl ⟨by rfl, ?_⟩) (by assumption) ?_
      · intro wS hSw
        try dsimp only at hSw
        go_simp
      try simp only [Act.put, List.setIfInBounds_toArray, List.set_cons_zero, List.set_cons_succ]
      refine wpAnyH_take (i := 2) (oi := { dst := some 7, op := Op.load 72 (Operand.tmp 3), type := 72, pos := "l4_scope.go:363", after := #[], guard := none }) (v := .agg #[.int .i64 u.fKind, .int .i64 u.fLong, .int .i64 u.fBase, .slice b3 u.fFields.length d3, .string u.fOwner, .string u.fName]) rfl (by kernel_rfl) (by kernel_rfl) (by kernel_rfl) (fun _ _ _ h => h) (Or.inl ⟨by rfl, ?_⟩) (by assumption) ?_
      · intro wS hSw
        try dsimp only at hSw
        go_simp
      try simp only [Act.put, List.setIfInBounds_toArray, List.set_cons_zero, List.set_cons_succ]
      refine wpAnyH_ready (rs := [1]) (by kernel_rfl) (by simp) ?_
      refine AllReadyH.cons (o := { dst := some 6, op := Op.call { callee := Callee.value (Operand.func 151), args := #[Operand.tmp 5], argTypes := #[72] }, type := 182, pos := "l4_scope.go:363", after := #[{ on := 0, ground := Ground.data }], guard := none }) rfl (fun K hK => ?_) AllReadyH.nil
      go_simp
      go_at_call 151
      refine (iHeadOf _ _ _ _ _ _ _ _ _).mono ?_
      rintro e wh ⟨rfl, hbh⟩
      have hsz := hbh.size
      replace HB := Lib.hid (HB.out.trans (hbh.mono HB.out.size))
      replace HR := Lib.hid (HR.out.below hbh)
      replace HR' := Lib.hid (HR'.out.below hbh)
      refine hK.out _ _ ?_ (fun hHeld2 => ?_)
      · try dsimp only
        first
          | go_keep
          | (go_split_ands
             refine ⟨?_, ?_, ?_, ?_, ?_, ?_, ?_, ?_, ?_, ?_, ?_, ?_⟩ <;> (rw [hbh.cell (by first | (simp at *; omega) | (simp at *; done) | omega)]; assumption))
      clear hK K hHeld
      have hHeld := hHeld2
      clear hHeld2
      try simp only [Act.put, List.setIfInBounds_toArray, List.set_cons_zero, List.set_cons_succ]
      refine wpAnyH_ready (rs := [3]) (by kernel_rfl) (by simp) ?_
      refine AllReadyH.cons (o := { dst := some 8, op := Op.call { callee := Callee.value (Operand.func 151), args := #[Operand.tmp 7], argTypes := #[72] }, type := 182, pos := "l4_scope.go:363", after := #[{ on := 2, ground := Ground.data }, { on := 1, ground := Ground.chain }], guard := none }) rfl (fun K hK => ?_) AllReadyH.nil
      go_simp
      go_at_call 151
      refine (iHeadOf _ _ _ _ _ _ _ _ _).mono ?_
      rintro e wh ⟨rfl, hbh⟩
      have hsz := hbh.size
      replace HB := Lib.hid (HB.out.trans (hbh.mono HB.out.size))
      replace HR := Lib.hid (HR.out.below hbh)
      replace HR' := Lib.hid (HR'.out.below hbh)
      refine hK.out _ _ ?_ (fun hHeld2 => ?_)
      · try dsimp only
        first
          | go_keep
          | (go_split_ands
             refine ⟨?_, ?_, ?_, ?_, ?_, ?_, ?_, ?_, ?_, ?_, ?_, ?_⟩ <;> (rw [hbh.cell (by first | (simp at *; omega) | (simp at *; done) | omega)]; assumption))
      clear hK K hHeld
      have hHeld := hHeld2
      clear hHeld2
      try simp only [Act.put, List.setIfInBounds_toArray, List.set_cons_zero, List.set_cons_succ]
      refine wpAnyH_take (i := 4) (oi := { dst := some 9, op := Op.binOp BinOp.eql 182 (Operand.tmp 6) (Operand.tmp 8) 182, type := 4, pos := "l4_scope.go:363", after := #[{ on := 1, ground := Ground.data }, { on := 3, ground := Ground.data }], guard := none }) (v := .bool true) rfl (by kernel_rfl) (by kernel_rfl) (by kernel_rfl) (fun _ _ _ h => h) (Or.inl ⟨by rfl, ?_⟩) (by assumption) ?_
      · intro wS hSw
        try dsimp only at hSw
        go_simp
      try simp only [Act.put, List.setIfInBounds_toArray, List.set_cons_zero, List.set_cons_succ]
      refine wpAnyH_take (i := 5) (oi := { dst := some 10, op := Op.move (Operand.tmp 9), type := 4, pos := "l4_scope.go:363", after := #[{ on := 4, ground := Ground.data }, { on := 3, ground := Ground.chain }], guard := none }) (v := .bool true) rfl (by kernel_rfl) (by kernel_rfl) (by kernel_rfl) (fun _ _ _ h => h) (Or.inl ⟨by rfl, ?_⟩) (by assumption) ?_
      · intro wS hSw
        try dsimp only at hSw
        go_simp
      try simp only [Act.put, List.setIfInBounds_toArray, List.set_cons_zero, List.set_cons_succ]
      refine wpAnyH_take (i := 6) (oi := { dst := some 11, op := Op.fieldAddr 72 (Operand.tmp 2) 2, type := 0, pos := "l4_scope.go:363", after := #[{ on := 5, ground := Ground.guard }], guard := some (5, true) }) (v := .pointer (some ⟨w.heap.size, 2, none⟩)) rfl (by kernel_rfl) (by kernel_rfl) (by kernel_rfl) (fun _ _ _ h => h) (Or.inl ⟨by rfl, ?_⟩) (by assumption) ?_
      · intro wS hSw
        try dsimp only at hSw
        go_simp
      try simp only [Act.put, List.setIfInBounds_toArray, List.set_cons_zero, List.set_cons_succ]
      refine wpAnyH_take (i := 7) (oi := { dst := some 12, op := Op.load 3 (Operand.tmp 11), type := 3, pos := "l4_scope.go:363", after := #[{ on := 6, ground := Ground.data }, { on := 5, ground := Ground.guard }], guard := some (5, true) }) (v := .int .i64 t.fBase) rfl (by kernel_rfl) (by kernel_rfl) (by kernel_rfl) (fun _ _ _ h => h) (Or.inl ⟨by rfl, ?_⟩) (by assumption) ?_
      · intro wS hSw
        try dsimp only at hSw
        go_simp
      try simp only [Act.put, List.setIfInBounds_toArray, List.set_cons_zero, List.set_cons_succ]
      refine wpAnyH_take (i := 8) (oi := { dst := some 13, op := Op.fieldAddr 72 (Operand.tmp 3) 2, type := 0, pos := "l4_scope.go:363", after := #[{ on := 5, ground := Ground.guard }], guard := some (5, true) }) (v := .pointer (some ⟨w.heap.size + 1, 2, none⟩)) rfl (by kernel_rfl) (by kernel_rfl) (by kernel_rfl) (fun _ _ _ h => h) (Or.inl ⟨by rfl, ?_⟩) (by assumption) ?_
      · intro wS hSw
        try dsimp only at hSw
        go_simp
      try simp only [Act.put, List.setIfInBounds_toArray, List.set_cons_zero, List.set_cons_succ]
      refine wpAnyH_take (i := 9) (oi := { dst := some 14, op := Op.load 3 (Operand.tmp 13), type := 3, pos := "l4_scope.go:363", after := #[{ on := 8, ground := Ground.data }, { on := 5, ground := Ground.guard }], guard := some (5, true) }) (v := .int .i64 u.fBase) rfl (by kernel_rfl) (by kernel_rfl) (by kernel_rfl) (fun _ _ _ h => h) (Or.inl ⟨by rfl, ?_⟩) (by assumption) ?_
      · intro wS hSw
        try dsimp only at hSw
        go_simp
      try simp only [Act.put, List.setIfInBounds_toArray, List.set_cons_zero, List.set_cons_succ]
      refine wpAnyH_take (i := 10) (oi := { dst := some 15, op := Op.binOp BinOp.eql 3 (Operand.tmp 12) (Operand.tmp 14) 3, type := 4, pos := "l4_scope.go:363", after := #[{ on := 7, ground := Ground.data }, { on := 9, ground := Ground.data }, { on := 5, ground := Ground.guard }], guard := some (5, true) }) (v := .bool false) rfl (by kernel_rfl) (by kernel_rfl) (by kernel_rfl) (fun _ _ _ h => h) (Or.inl ⟨by rfl, ?_⟩) (by assumption) ?_
      · intro wS hSw
        try dsimp only at hSw
        go_simp
      try simp only [Act.put, List.setIfInBounds_toArray, List.set_cons_zero, List.set_cons_succ]
      refine wpAnyH_take (i := 11) (oi := { dst := some 16, op := Op.pick (Operand.tmp 10) (Operand.tmp 15) (Operand.const (Value.bool false)), type := 4, pos := "l4_scope.go:363", after := #[{ on := 5, ground := Ground.data }, { on := 10, ground := Ground.data }], guard := none }) (v := .bool false) rfl (by kernel_rfl) (by kernel_rfl) (by kernel_rfl) (fun _ _ _ h => h) (Or.inl ⟨by rfl, ?_⟩) (by assumption) ?_
      · intro wS hSw
        try dsimp only at hSw
        go_simp
      try simp only [Act.put, List.setIfInBounds_toArray, List.set_cons_zero, List.set_cons_succ]
      refine wpAnyH_take (i := 12) (oi := { dst := some 17, op := Op.move (Operand.tmp 16), type := 4, pos := "l4_scope.go:363", after := #[{ on := 11, ground := Ground.data }, { on := 5, ground := Ground.chain }], guard := none }) (v := .bool false) rfl (by kernel_rfl) (by kernel_rfl) (by kernel_rfl) (fun _ _ _ h => h) (Or.inl ⟨by rfl, ?_⟩) (by assumption) ?_
      · intro wS hSw
        try dsimp only at hSw
        go_simp
      try simp only [Act.put, List.setIfInBounds_toArray, List.set_cons_zero, List.set_cons_succ]
      refine wpAnyH_take (i := 13) (oi := { dst := some 18, op := Op.fieldAddr 72 (Operand.tmp 2) 3, type := 0, pos := "l4_scope.go:363", after := #[{ on := 12, ground := Ground.guard }], guard := some (12, true) }) (v := undef) rfl (by kernel_rfl) (by kernel_rfl) (by kernel_rfl) (fun _ _ _ h => h) (Or.inr ⟨by rfl, rfl⟩) (by assumption) ?_
      try simp only [Act.put, List.setIfInBounds_toArray, List.set_cons_zero, List.set_cons_succ]
      refine wpAnyH_take (i := 14) (oi := { dst := some 19, op := Op.load 70 (Operand.tmp 18), type := 70, pos := "l4_scope.go:363", after := #[{ on := 13, ground := Ground.data }, { on := 12, ground := Ground.guard }], guard := some (12, true) }) (v := undef) rfl (by kernel_rfl) (by kernel_rfl) (by kernel_rfl) (fun _ _ _ h => h) (Or.inr ⟨by rfl, rfl⟩) (by assumption) ?_
      try simp only [Act.put, List.setIfInBounds_toArray, List.set_cons_zero, List.set_cons_succ]
      refine wpAnyH_take (i := 15) (oi := { dst := some 20, op := Op.fieldAddr 72 (Operand.tmp 3) 3, type := 0, pos := "l4_scope.go:363", after := #[{ on := 12, ground := Ground.guard }], guard := some (12, true) }) (v := undef) rfl (by kernel_rfl) (by kernel_rfl) (by kernel_rfl) (fun _ _ _ h => h) (Or.inr ⟨by rfl, rfl⟩) (by assumption) ?_
      try simp only [Act.put, List.setIfInBounds_toArray, List.set_cons_zero, List.set_cons_succ]
      refine wpAnyH_take (i := 16) (oi := { dst := some 21, op := Op.load 70 (Operand.tmp 20), type := 70, pos := "l4_scope.go:363", after := #[{ on := 15, ground := Ground.data }, { on := 12, ground := Ground.guard }], guard := some (12, true) }) (v := undef) rfl (by kernel_rfl) (by kernel_rfl) (by kernel_rfl) (fun _ _ _ h => h) (Or.inr ⟨by rfl, rfl⟩) (by assumption) ?_
      try simp only [Act.put, List.setIfInBounds_toArray, List.set_cons_zero, List.set_cons_succ]
      refine wpAnyH_take (i := 17) (oi := { dst := some 22, op := Op.call { callee := Callee.value (Operand.func 163), args := #[Operand.tmp 19, Operand.tmp 21], argTypes := #[70, 70] }, type := 4, pos := "l4_scope.go:363", after := #[{ on := 14, ground := Ground.data }, { on := 16, ground := Ground.data }, { on := 12, ground := Ground.chain }, { on := 12, ground := Ground.guard }], guard := some (12, true) }) (v := undef) rfl (by kernel_rfl) (by kernel_rfl) (by kernel_rfl) (fun _ _ _ h => h) (Or.inr ⟨by rfl, rfl⟩) (by assumption) ?_
      try simp only [Act.put, List.setIfInBounds_toArray, List.set_cons_zero, List.set_cons_succ]
      refine wpAnyH_take (i := 18) (oi := { dst := some 23, op := Op.pick (Operand.tmp 17) (Operand.tmp 22) (Operand.const (Value.bool false)), type := 4, pos := "l4_scope.go:363", after := #[{ on := 12, ground := Ground.data }, { on := 17, ground := Ground.data }], guard := none }) (v := .bool false) rfl (by kernel_rfl) (by kernel_rfl) (by kernel_rfl) (fun _ _ _ h => h) (Or.inl ⟨by rfl, ?_⟩) (by assumption) ?_
      · intro wS hSw
        try dsimp only at hSw
        go_simp
      try simp only [Act.put, List.setIfInBounds_toArray, List.set_cons_zero, List.set_cons_succ]
      refine wpAnyH_take (i := 19) (oi := { dst := some 4, op := Op.assign (Operand.tmp 23), type := 4, pos := "l4_scope.go:363", after := #[{ on := 18, ground := Ground.data }, { on := 17, ground := Ground.chain }, { on := 0, ground := Ground.phase }, { on := 1, ground := Ground.phase }, { on := 2, ground := Ground.phase }, { on := 3, ground := Ground.phase }, { on := 4, ground := Ground.phase }, { on := 5, ground := Ground.phase }, { on := 6, ground := Ground.phase }, { on := 7, ground := Ground.phase }, { on := 8, ground := Ground.phase }, { on := 9, ground := Ground.phase }, { on := 10, ground := Ground.phase }, { on := 11, ground := Ground.phase }, { on := 12, ground := Ground.phase }, { on := 13, ground := Ground.phase }, { on := 14, ground := Ground.phase }, { on := 15, ground := Ground.phase }, { on := 16, ground := Ground.phase }, { on := 17, ground := Ground.phase }, { on := 18, ground := Ground.phase }], guard := none }) (v := .bool false) rfl (by kernel_rfl) (by kernel_rfl) (by kernel_rfl) (fun _ _ _ h => h) (Or.inl ⟨by rfl, ?_⟩) (by assumption) ?_
      · intro wS hSw
        try dsimp only at hSw
        go_simp
      try simp only [Act.put, List.setIfInBounds_toArray, List.set_cons_zero, List.set_cons_succ]
      refine wpAnyH_done (by kernel_rfl) ?_ _
      go_wp2_with fail
      go_ret
      exact ⟨by rw [Hv.out]; rfl, HB.out⟩
    | true =>
      have p01 := Hbq.out
      go_wp2_with fail
      first
        | (go_region_held3 (fun w' => w'.cell? ⟨w.heap.size, 0, none⟩ = some (.int .i64 t.fKind) ∧ w'.cell? ⟨w.heap.size, 1, none⟩ = some (.int .i64 t.fLong) ∧ w'.cell? ⟨w.heap.size, 2, none⟩ = some (.int .i64 t.fBase) ∧ w'.cell? ⟨w.heap.size, 3, none⟩ = some (.slice a3 t.fFields.length c3) ∧ w'.cell? ⟨w.heap.size, 4, none⟩ = some (.string t.fOwner) ∧ w'.cell? ⟨w.heap.size, 5, none⟩ = some (.string t.fName) ∧ w'.cell? ⟨(w.heap.size + 1), 0, none⟩ = some (.int .i64 u.fKind) ∧ w'.cell? ⟨(w.heap.size + 1), 1, none⟩ = some (.int .i64 u.fLong) ∧ w'.cell? ⟨(w.heap.size + 1), 2, none⟩ = some (.int .i64 u.fBase) ∧ w'.cell? ⟨(w.heap.size + 1), 3, none⟩ = some (.slice b3 u.fFields.length d3) ∧ w'.cell? ⟨(w.heap.size + 1), 4, none⟩ = some (.string u.fOwner) ∧ w'.cell? ⟨(w.heap.size + 1), 5, none⟩ = some (.string u.fName))
                (first
                  | go_keep
                  | (go_split_ands
                     refine ⟨?_, ?_, ?_, ?_, ?_, ?_, ?_, ?_, ?_, ?_, ?_, ?_⟩ <;> (rw [hbh.cell (by first | (simp at *; omega) | (simp at *; done) | omega)]; assumption)))
                (first
                  | (go_at_call 151; refine (iHeadOf _ _ _ _ _ _ _ _ _).mono ?_; rintro e wh ⟨rfl, hbh⟩; have hsz := hbh.size; replace HB := Lib.hid (HB.out.trans (hbh.mono HB.out.size)); replace HR := Lib.hid (HR.out.below hbh); replace HR' := Lib.hid (HR'.out.below hbh))
                  | (go_at_call 163; refine (iEqualField a3 b3 c3 d3 _ _ _ hl HR.out HR'.out).mono ?_; rintro e wh ⟨rfl, hbh⟩; have hsz := hbh.size; replace HB := Lib.hid (HB.out.trans (hbh.mono HB.out.size)))))
        | fail
      go_wp2_with fail
      go_ret
      exact ⟨by rw [Hv.out, Hsq.out]; rfl, HB.out⟩

set_option maxRecDepth 100000 in
set_option maxHeartbeats 8000000 in
theorem iSameObject (t u : ObjectD) (a3 b3 : Option Addr) (c3 d3 : Nat) (w : World) (hl : t.fParams.length ≤ 1048576) (hr : Rows paramS Any w a3 t.fParams) (hr' : Rows paramS Any w b3 u.fParams) :
    Calls Tryz.prog 136 #[.agg #[.string t.fName, .int .i64 t.fKind, .int .i64 t.fMark, .int .i64 t.fType, .int .i64 t.fValue, .slice a3 t.fParams.length c3], .agg #[.string u.fName, .int .i64 u.fKind, .int .i64 u.fMark, .int .i64 u.fType, .int .i64 u.fValue, .slice b3 u.fParams.length d3]] w fun e w' => e = .returned (.bool (eqB t u)) ∧ Below w.heap.size w w' := by
  have HB := Lib.hid (belowN (((Below.refl w.heap.size w).alloc (Nat.le_refl _) (.cells #[.string t.fName, .int .i64 t.fKind, .int .i64 t.fMark, .int .i64 t.fType, .int .i64 t.fValue, .slice a3 t.fParams.length c3] 78)).alloc (by simp) (.cells #[.string u.fName, .int .i64 u.fKind, .int .i64 u.fMark, .int .i64 u.fType, .int .i64 u.fValue, .slice b3 u.fParams.length d3] 78)) 1)
  have HR := Lib.hid (hr.below HB.out)
  have HR' := Lib.hid (hr'.below HB.out)
  clear hr hr'
  have heq := eqHeadO t.fName t.fMark t.fKind t.fValue t.fParams.length u.fName u.fMark u.fKind u.fValue u.fParams.length
  obtain ⟨hq, hhq⟩ : ∃ hq : Bool, ((t.fName.toList == u.fName.toList) && ((t.fMark == u.fMark) && ((t.fKind == u.fKind) && ((t.fValue == u.fValue) && ((t.fParams.length : Int) == (u.fParams.length : Int)))))) = hq := ⟨_, rfl⟩
  rw [hhq] at heq
  have Hhq := Lib.hid hhq
  clear hhq
  obtain ⟨bq, hbq⟩ : ∃ bq : Bool, (t.fType == u.fType) = bq := ⟨_, rfl⟩
  have Hbq := Lib.hid hbq
  clear hbq
  obtain ⟨sq, hsq⟩ : ∃ sq : Bool, sameB t.fParams u.fParams = sq := ⟨_, rfl⟩
  have Hsq := Lib.hid hsq
  clear hsq
  have Hv := Lib.hid (show eqB t u = (hq && (bq && sq)) by
    have e1 := Hhq.out
    have e2 := Hbq.out
    have e3 := Hsq.out
    by_cases h : t = u
    · subst h
      have g1 := headsO_bool.2 (headsO_refl t)
      rw [e1] at g1
      have g3 := sameB_true (rfl : t.fParams = t.fParams)
      rw [e3] at g3
      have g2 : bq = true := by rw [← e2]; simp
      rw [eqB_true rfl, g1, g2, g3]
      rfl
    · rw [eqB_false h]
      cases hq with
      | false => rfl
      | true =>
        cases bq with
        | false => rfl
        | true =>
          cases sq with
          | false => rfl
          | true => exact absurd (object_eq (headsO_bool.1 e1) (by simpa using e2) (sameB_iff.1 e3)) h)
  go_enter Tryz.func136, Tryz.ntmps136
  cases hq with
  | false =>
    go_wp2_with fail
    refine wp_region_held_drew (S := fun w' => w'.cell? ⟨w.heap.size, 0, none⟩ = some (.string t.fName) ∧ w'.cell? ⟨w.heap.size, 1, none⟩ = some (.int .i64 t.fKind) ∧ w'.cell? ⟨w.heap.size, 2, none⟩ = some (.int .i64 t.fMark) ∧ w'.cell? ⟨w.heap.size, 3, none⟩ = some (.int .i64 t.fType) ∧ w'.cell? ⟨w.heap.size, 4, none⟩ = some (.int .i64 t.fValue) ∧ w'.cell? ⟨w.heap.size, 5, none⟩ = some (.slice a3 t.fParams.length c3) ∧ w'.cell? ⟨(w.heap.size + 1), 0, none⟩ = some (.string u.fName) ∧ w'.cell? ⟨(w.heap.size + 1), 1, none⟩ = some (.int .i64 u.fKind) ∧ w'.cell? ⟨(w.heap.size + 1), 2, none⟩ = some (.int .i64 u.fMark) ∧ w'.cell? ⟨(w.heap.size + 1), 3, none⟩ = some (.int .i64 u.fType) ∧ w'.cell? ⟨(w.heap.size + 1), 4, none⟩ = some (.int .i64 u.fValue) ∧ w'.cell? ⟨(w.heap.size + 1), 5, none⟩ = some (.slice b3 u.fParams.length d3)) (by kernel_rfl) ?_ (fun hHeld => ?_)
    · try dsimp only
      go_keep
    refine wpAnyH_take (i := 0) (oi := { dst := some 5, op := Op.load 78 (Operand.tmp 2), type := 78, pos := "l4_scope.go:367", after := #[], guard := none }) (v := .agg #[.string t.fName, .int .i64 t.fKind, .int .i64 t.fMark, .int .i64 t.fType, .int .i64 t.fValue, .slice a3 t.fParams.length c3]) rfl (by kernel_rfl) (by kernel_rfl) (by kernel_rfl) (fun _ _ _ h => h) (Or.inl ⟨by rfl, ?_⟩) (by assumption) ?_
    · intro wS hSw
      try dsimp only at hSw
      go_simp
    try simp only [Act.put, List.setIfInBounds_toArray, List.set_cons_zero, List.set_cons_succ]
    refine wpAnyH_take (i := 2) (oi := { dst := some 7, op := Op.load 78 (Operand.tmp 3), type := 78, pos := "l4_scope.go:367", after := #[], guard := none }) (v := .agg #[.string u.fName, .int .i64 u.fKind, .int .i64 u.fMark, .int .i64 u.fType, .int .i64 u.fValue, .slice b3 u.fParams.length d3]) rfl (by kernel_rfl) (by kernel_rfl) (by kernel_rfl) (fun _ _ _ h => h) (Or.inl ⟨by rfl, ?_⟩) (by assumption) ?_
    · intro wS hSw
      try dsimp only at hSw
      go_simp
    try simp only [Act.put, List.setIfInBounds_toArray, List.set_cons_zero, List.set_cons_succ]
    refine wpAnyH_ready (rs := [1]) (by kernel_rfl) (by simp) ?_
    refine AllReadyH.cons (o := { dst := some 6, op := Op.call { callee := Callee.value (Operand.func 77), args := #[Operand.tmp 5], argTypes := #[78] }, type := 120, pos := "l4_scope.go:367", after := #[{ on := 0, ground := Ground.data }], guard := none }) rfl (fun K hK => ?_) AllReadyH.nil
    go_simp
    go_at_call 77
    refine (iHeadObj _ _ _ _ _ _ _ _ _).mono ?_
    rintro e wh ⟨rfl, hbh⟩
    have hsz := hbh.size
    replace HB := Lib.hid (HB.out.trans (hbh.mono HB.out.size))
    replace HR := Lib.hid (HR.out.below hbh)
    replace HR' := Lib.hid (HR'.out.below hbh)
    refine hK.out _ _ ?_ (fun hHeld2 => ?_)
    · try dsimp only
      first
        | go_keep
        | (go_split_ands
           refine ⟨?_, ?_, ?_, ?_, ?_, ?_, ?_, ?_, ?_, ?_, ?_, ?_⟩ <;> (rw [hbh.cell (by first | (simp at *; omega) | (simp at *; done) | omega)]; assumption))
    clear hK K hHeld
    have hHeld := hHeld2
    clear hHeld2
    try simp only [Act.put, List.setIfInBounds_toArray, List.set_cons_zero, List.set_cons_succ]
    refine wpAnyH_ready (rs := [3]) (by kernel_rfl) (by simp) ?_
    refine AllReadyH.cons (o := { dst := some 8, op := Op.call { callee := Callee.value (Operand.func 77), args := #[Operand.tmp 7], argTypes := #[78] }, type := 120, pos := "l4_scope.go:367", after := #[{ on := 2, ground := Ground.data }, { on := 1, ground := Ground.chain }], guard := none }) rfl (fun K hK => ?_) AllReadyH.nil
    go_simp
    go_at_call 77
    refine (iHeadObj _ _ _ _ _ _ _ _ _).mono ?_
    rintro e wh ⟨rfl, hbh⟩
    have hsz := hbh.size
    replace HB := Lib.hid (HB.out.trans (hbh.mono HB.out.size))
    replace HR := Lib.hid (HR.out.below hbh)
    replace HR' := Lib.hid (HR'.out.below hbh)
    refine hK.out _ _ ?_ (fun hHeld2 => ?_)
    · try dsimp only
      first
        | go_keep
        | (go_split_ands
           refine ⟨?_, ?_, ?_, ?_, ?_, ?_, ?_, ?_, ?_, ?_, ?_, ?_⟩ <;> (rw [hbh.cell (by first | (simp at *; omega) | (simp at *; done) | omega)]; assumption))
    clear hK K hHeld
    have hHeld := hHeld2
    clear hHeld2
    try simp only [Act.put, List.setIfInBounds_toArray, List.set_cons_zero, List.set_cons_succ]
    refine wpAnyH_take (i := 4) (oi := { dst := some 9, op := Op.binOp BinOp.eql 120 (Operand.tmp 6) (Operand.tmp 8) 120, type := 4, pos := "l4_scope.go:367", after := #[{ on := 1, ground := Ground.data }, { on := 3, ground := Ground.data }], guard := none }) (v := .bool false) rfl (by kernel_rfl) (by kernel_rfl) (by kernel_rfl) (fun _ _ _ h => h) (Or.inl ⟨by rfl, ?_⟩) (by assumption) ?_
    · intro wS hSw
      try dsimp only at hSw
      go_simp
    try simp only [Act.put, List.setIfInBounds_toArray, List.set_cons_zero, List.set_cons_succ]
    refine wpAnyH_take (i := 5) (oi := { dst := some 10, op := Op.move (Operand.tmp 9), type := 4, pos := "l4_scope.go:367", after := #[{ on := 4, ground := Ground.data }, { on := 3, ground := Ground.chain }], guard := none }) (v := .bool false) rfl (by kernel_rfl) (by kernel_rfl) (by kernel_rfl) (fun _ _ _ h => h) (Or.inl ⟨by rfl, ?_⟩) (by assumption) ?_
    · intro wS hSw
      try dsimp only at hSw
      go_simp
    try simp only [Act.put, List.setIfInBounds_toArray, List.set_cons_zero, List.set_cons_succ]
    refine wpAnyH_take (i := 6) (oi := { dst := some 11, op := Op.fieldAddr 78 (Operand.tmp 2) 3, type := 0, pos := "l4_scope.go:367", after := #[{ on := 5, ground := Ground.guard }], guard := some (5, true) }) (v := undef) rfl (by kernel_rfl) (by kernel_rfl) (by kernel_rfl) (fun _ _ _ h => h) (Or.inr ⟨by rfl, rfl⟩) (by assumption) ?_
    try simp only [Act.put, List.setIfInBounds_toArray, List.set_cons_zero, List.set_cons_succ]
    refine wpAnyH_take (i := 7) (oi := { dst := some 12, op := Op.load 3 (Operand.tmp 11), type := 3, pos := "l4_scope.go:367", after := #[{ on := 6, ground := Ground.data }, { on := 5, ground := Ground.guard }], guard := some (5, true) }) (v := undef) rfl (by kernel_rfl) (by kernel_rfl) (by kernel_rfl) (fun _ _ _ h => h) (Or.inr ⟨by rfl, rfl⟩) (by assumption) ?_
    try simp only [Act.put, List.setIfInBounds_toArray, List.set_cons_zero, List.set_cons_succ]
    refine wpAnyH_take (i := 8) (oi := { dst := some 13, op := Op.fieldAddr 78 (Operand.tmp 3) 3, type := 0, pos := "l4_scope.go:367", after := #[{ on := 5, ground := Ground.guard }], guard := some (5, true) }) (v := undef) rfl (by kernel_rfl) (by kernel_rfl) (by kernel_rfl) (fun _ _ _ h => h) (Or.inr ⟨by rfl, rfl⟩) (by assumption) ?_
    try simp only [Act.put, List.setIfInBounds_toArray, List.set_cons_zero, List.set_cons_succ]
    refine wpAnyH_take (i := 9) (oi := { dst := some 14, op := Op.load 3 (Operand.tmp 13), type := 3, pos := "l4_scope.go:367", after := #[{ on := 8, ground := Ground.data }, { on := 5, ground := Ground.guard }], guard := some (5, true) }) (v := undef) rfl (by kernel_rfl) (by kernel_rfl) (by kernel_rfl) (fun _ _ _ h => h) (Or.inr ⟨by rfl, rfl⟩) (by assumption) ?_
    try simp only [Act.put, List.setIfInBounds_toArray, List.set_cons_zero, List.set_cons_succ]
    refine wpAnyH_take (i := 10) (oi := { dst := some 15, op := Op.binOp BinOp.eql 3 (Operand.tmp 12) (Operand.tmp 14) 3, type := 4, pos := "l4_scope.go:367", after := #[{ on := 7, ground := Ground.data }, { on := 9, ground := Ground.data }, { on := 5, ground := Ground.guard }], guard := some (5, true) }) (v := undef) rfl (by kernel_rfl) (by kernel_rfl) (by kernel_rfl) (fun _ _ _ h => h) (Or.inr ⟨by rfl, rfl⟩) (by assumption) ?_
    try simp only [Act.put, List.setIfInBounds_toArray, List.set_cons_zero, List.set_cons_succ]
    refine wpAnyH_take (i := 11) (oi := { dst := some 16, op := Op.pick (Operand.tmp 10) (Operand.tmp 15) (Operand.const (Value.bool false)), type := 4, pos := "l4_scope.go:367", after := #[{ on := 5, ground := Ground.data }, { on := 10, ground := Ground.data }], guard := none }) (v := .bool false) rfl (by kernel_rfl) (by kernel_rfl) (by kernel_rfl) (fun _ _ _ h => h) (Or.inl ⟨by rfl, ?_⟩) (by assumption) ?_
    · intro wS hSw
      try dsimp only at hSw
      go_simp
    try simp only [Act.put, List.setIfInBounds_toArray, List.set_cons_zero, List.set_cons_succ]
    refine wpAnyH_take (i := 12) (oi := { dst := some 17, op := Op.move (Operand.tmp 16), type := 4, pos := "l4_scope.go:367", after := #[{ on := 11, ground := Ground.data }, { on := 5, ground := Ground.chain }], guard := none }) (v := .bool false) rfl (by kernel_rfl) (by kernel_rfl) (by kernel_rfl) (fun _ _ _ h => h) (Or.inl ⟨by rfl, ?_⟩) (by assumption) ?_
    · intro wS hSw
      try dsimp only at hSw
      go_simp
    try simp only [Act.put, List.setIfInBounds_toArray, List.set_cons_zero, List.set_cons_succ]
    refine wpAnyH_take (i := 13) (oi := { dst := some 18, op := Op.fieldAddr 78 (Operand.tmp 2) 5, type := 0, pos := "l4_scope.go:367", after := #[{ on := 12, ground := Ground.guard }], guard := some (12, true) }) (v := undef) rfl (by kernel_rfl) (by kernel_rfl) (by kernel_rfl) (fun _ _ _ h => h) (Or.inr ⟨by rfl, rfl⟩) (by assumption) ?_
    try simp only [Act.put, List.setIfInBounds_toArray, List.set_cons_zero, List.set_cons_succ]
    refine wpAnyH_take (i := 14) (oi := { dst := some 19, op := Op.load 76 (Operand.tmp 18), type := 76, pos := "l4_scope.go:367", after := #[{ on := 13, ground := Ground.data }, { on := 12, ground := Ground.guard }], guard := some (12, true) }) (v := undef) rfl (by kernel_rfl) (by kernel_rfl) (by kernel_rfl) (fun _ _ _ h => h) (Or.inr ⟨by rfl, rfl⟩) (by assumption) ?_
    try simp only [Act.put, List.setIfInBounds_toArray, List.set_cons_zero, List.set_cons_succ]
    refine wpAnyH_take (i := 15) (oi := { dst := some 20, op := Op.fieldAddr 78 (Operand.tmp 3) 5, type := 0, pos := "l4_scope.go:367", after := #[{ on := 12, ground := Ground.guard }], guard := some (12, true) }) (v := undef) rfl (by kernel_rfl) (by kernel_rfl) (by kernel_rfl) (fun _ _ _ h => h) (Or.inr ⟨by rfl, rfl⟩) (by assumption) ?_
    try simp only [Act.put, List.setIfInBounds_toArray, List.set_cons_zero, List.set_cons_succ]
    refine wpAnyH_take (i := 16) (oi := { dst := some 21, op := Op.load 76 (Operand.tmp 20), type := 76, pos := "l4_scope.go:367", after := #[{ on := 15, ground := Ground.data }, { on := 12, ground := Ground.guard }], guard := some (12, true) }) (v := undef) rfl (by kernel_rfl) (by kernel_rfl) (by kernel_rfl) (fun _ _ _ h => h) (Or.inr ⟨by rfl, rfl⟩) (by assumption) ?_
    try simp only [Act.put, List.setIfInBounds_toArray, List.set_cons_zero, List.set_cons_succ]
    refine wpAnyH_take (i := 17) (oi := { dst := some 22, op := Op.call { callee := Callee.value (Operand.func 164), args := #[Operand.tmp 19, Operand.tmp 21], argTypes := #[76, 76] }, type := 4, pos := "l4_scope.go:367", after := #[{ on := 14, ground := Ground.data }, { on := 16, ground := Ground.data }, { on := 12, ground := Ground.chain }, { on := 12, ground := Ground.guard }], guard := some (12, true) }) (v := undef) rfl (by kernel_rfl) (by kernel_rfl) (by kernel_rfl) (fun _ _ _ h => h) (Or.inr ⟨by rfl, rfl⟩) (by assumption) ?_
    try simp only [Act.put, List.setIfInBounds_toArray, List.set_cons_zero, List.set_cons_succ]
    refine wpAnyH_take (i := 18) (oi := { dst := some 23, op := Op.pick (Operand.tmp 17) (Operand.tmp 22) (Operand.const (Value.bool false)), type := 4, pos := "l4_scope.go:367", after := #[{ on := 12, ground := Ground.data }, { on := 17, ground := Ground.data }], guard := none }) (v := .bool false) rfl (by kernel_rfl) (by kernel_rfl) (by kernel_rfl) (fun _ _ _ h => h) (Or.inl ⟨by rfl, ?_⟩) (by assumption) ?_
    · intro wS hSw
      try dsimp only at hSw
      go_simp
    try simp only [Act.put, List.setIfInBounds_toArray, List.set_cons_zero, List.set_cons_succ]
    refine wpAnyH_take (i := 19) (oi := { dst := some 4, op := Op.assign (Operand.tmp 23), type := 4, pos := "l4_scope.go:367", after := #[{ on := 18, ground := Ground.data }, { on := 17, ground := Ground.chain }, { on := 0, ground := Ground.phase }, { on := 1, ground := Ground.phase }, { on := 2, ground := Ground.phase }, { on := 3, ground := Ground.phase }, { on := 4, ground := Ground.phase }, { on := 5, ground := Ground.phase }, { on := 6, ground := Ground.phase }, { on := 7, ground := Ground.phase }, { on := 8, ground := Ground.phase }, { on := 9, ground := Ground.phase }, { on := 10, ground := Ground.phase }, { on := 11, ground := Ground.phase }, { on := 12, ground := Ground.phase }, { on := 13, ground := Ground.phase }, { on := 14, ground := Ground.phase }, { on := 15, ground := Ground.phase }, { on := 16, ground := Ground.phase }, { on := 17, ground := Ground.phase }, { on := 18, ground := Ground.phase }], guard := none }) (v := .bool false) rfl (by kernel_rfl) (by kernel_rfl) (by kernel_rfl) (fun _ _ _ h => h) (Or.inl ⟨by rfl, ?_⟩) (by assumption) ?_
    · intro wS hSw
      try dsimp only at hSw
      go_simp
    try simp only [Act.put, List.setIfInBounds_toArray, List.set_cons_zero, List.set_cons_succ]
    refine wpAnyH_done (by kernel_rfl) ?_ _
    go_wp2_with fail
    go_ret
    exact ⟨by rw [Hv.out]; rfl, HB.out⟩
  | true =>
    cases bq with
    | false =>
      have p01 := Hbq.out
      have p0 := beq_eq_false_iff_ne.1 Hbq.out
      go_wp2_with fail
      refine wp_region_held_drew (S := fun w' => w'.cell? ⟨w.heap.size, 0, none⟩ = some (.string t.fName) ∧ w'.cell? ⟨w.heap.size, 1, none⟩ = some (.int .i64 t.fKind) ∧ w'.cell? ⟨w.heap.size, 2, none⟩ = some (.int .i64 t.fMark) ∧ w'.cell? ⟨w.heap.size, 3, none⟩ = some (.int .i64 t.fType) ∧ w'.cell? ⟨w.heap.size, 4, none⟩ = some (.int .i64 t.fValue) ∧ w'.cell? ⟨w.heap.size, 5, none⟩ = some (.slice a3 t.fParams.length c3) ∧ w'.cell? ⟨(w.heap.size + 1), 0, none⟩ = some (.string u.fName) ∧ w'.cell? ⟨(w.heap.size + 1), 1, none⟩ = some (.int .i64 u.fKind) ∧ w'.cell? ⟨(w.heap.size + 1), 2, none⟩ = some (.int .i64 u.fMark) ∧ w'.cell? ⟨(w.heap.size + 1), 3, none⟩ = some (.int .i64 u.fType) ∧ w'.cell? ⟨(w.heap.size + 1), 4, none⟩ = some (.int .i64 u.fValue) ∧ w'.cell? ⟨(w.heap.size + 1), 5, none⟩ = some (.slice b3 u.fParams.length d3)) (by kernel_rfl) ?_ (fun hHeld => ?_)
      · try dsimp only
        go_keep
      refine wpAnyH_take (i := 0) (oi := { dst := some 5, op := Op.load 78 (Operand.tmp 2), type := 78, pos := "l4_scope.go:367", after := #[], guard := none }) (v := .agg #[.string t.fName, .int .i64 t.fKind, .int .i64 t.fMark, .int .i64 t.fType, .int .i64 t.fValue, .slice a3 t.fParams.length c3]) rfl (by kernel_rfl) (by kernel_rfl) (by kernel_rfl) (fun _ _ _ h => h) (Or.inl ⟨by rfl, ?_⟩) (by assumption) ?_
      · intro wS hSw
        try dsimp only at hSw
        go_simp
      try simp only [Act.put, List.setIfInBounds_toArray, List.set_cons_zero, List.set_cons_succ]
      refine wpAnyH_take (i := 2) (oi := { dst := some 7, op := Op.load 78 (Operand.tmp 3), type := 78, pos := "l4_scope.go:367", after := #[], guard := none }) (v := .agg #[.string u.fName, .int .i64 u.fKind, .int .i64 u.fMark, .int .i64 u.fType, .int .i64 u.fValue, .slice b3 u.fParams.length d3]) rfl (by kernel_rfl) (by kernel_rfl) (by kernel_rfl) (fun _ _ _ h => h) (Or.inl ⟨by rfl, ?_⟩) (by assumption) ?_
      · intro wS hSw
        try dsimp only at hSw
        go_simp
      try simp only [Act.put, List.setIfInBounds_toArray, List.set_cons_zero, List.set_cons_succ]
      refine wpAnyH_ready (rs := [1]) (by kernel_rfl) (by simp) ?_
      refine AllReadyH.cons (o := { dst := some 6, op := Op.call { callee := Callee.value (Operand.func 77), args := #[Operand.tmp 5], argTypes := #[78] }, type := 120, pos := "l4_scope.go:367", after := #[{ on := 0, ground := Ground.data }], guard := none }) rfl (fun K hK => ?_) AllReadyH.nil
      go_simp
      go_at_call 77
      refine (iHeadObj _ _ _ _ _ _ _ _ _).mono ?_
      rintro e wh ⟨rfl, hbh⟩
      have hsz := hbh.size
      replace HB := Lib.hid (HB.out.trans (hbh.mono HB.out.size))
      replace HR := Lib.hid (HR.out.below hbh)
      replace HR' := Lib.hid (HR'.out.below hbh)
      refine hK.out _ _ ?_ (fun hHeld2 => ?_)
      · try dsimp only
        first
          | go_keep
          | (go_split_ands
             refine ⟨?_, ?_, ?_, ?_, ?_, ?_, ?_, ?_, ?_, ?_, ?_, ?_⟩ <;> (rw [hbh.cell (by first | (simp at *; omega) | (simp at *; done) | omega)]; assumption))
      clear hK K hHeld
      have hHeld := hHeld2
      clear hHeld2
      try simp only [Act.put, List.setIfInBounds_toArray, List.set_cons_zero, List.set_cons_succ]
      refine wpAnyH_ready (rs := [3]) (by kernel_rfl) (by simp) ?_
      refine AllReadyH.cons (o := { dst := some 8, op := Op.call { callee := Callee.value (Operand.func 77), args := #[Operand.tmp 7], argTypes := #[78] }, type := 120, pos := "l4_scope.go:367", after := #[{ on := 2, ground := Ground.data }, { on := 1, ground := Ground.chain }], guard := none }) rfl (fun K hK => ?_) AllReadyH.nil
      go_simp
      go_at_call 77
      refine (iHeadObj _ _ _ _ _ _ _ _ _).mono ?_
      rintro e wh ⟨rfl, hbh⟩
      have hsz := hbh.size
      replace HB := Lib.hid (HB.out.trans (hbh.mono HB.out.size))
      replace HR := Lib.hid (HR.out.below hbh)
      replace HR' := Lib.hid (HR'.out.below hbh)
      refine hK.out _ _ ?_ (fun hHeld2 => ?_)
      · try dsimp only
        first
          | go_keep
          | (go_split_ands
             refine ⟨?_, ?_, ?_, ?_, ?_, ?_, ?_, ?_, ?_, ?_, ?_, ?_⟩ <;> (rw [hbh.cell (by first | (simp at *; omega) | (simp at *; done) | omega)]; assumption))
      clear hK K hHeld
      have hHeld := hHeld2
      clear hHeld2
      try simp only [Act.put, List.setIfInBounds_toArray, List.set_cons_zero, List.set_cons_succ]
      refine wpAnyH_take (i := 4) (oi := { dst := some 9, op := Op.binOp BinOp.eql 120 (Operand.tmp 6) (Operand.tmp 8) 120, type := 4, pos := "l4_scope.go:367", after := #[{ on := 1, ground := Ground.data }, { on := 3, ground := Ground.data }], guard := none }) (v := .bool true) rfl (by kernel_rfl) (by kernel_rfl) (by kernel_rfl) (fun _ _ _ h => h) (Or.inl ⟨by rfl, ?_⟩) (by assumption) ?_
      · intro wS hSw
        try dsimp only at hSw
        go_simp
      try simp only [Act.put, List.setIfInBounds_toArray, List.set_cons_zero, List.set_cons_succ]
      refine wpAnyH_take (i := 5) (oi := { dst := some 10, op := Op.move (Operand.tmp 9), type := 4, pos := "l4_scope.go:367", after := #[{ on := 4, ground := Ground.data }, { on := 3, ground := Ground.chain }], guard := none }) (v := .bool true) rfl (by kernel_rfl) (by kernel_rfl) (by kernel_rfl) (fun _ _ _ h => h) (Or.inl ⟨by rfl, ?_⟩) (by assumption) ?_
      · intro wS hSw
        try dsimp only at hSw
        go_simp
      try simp only [Act.put, List.setIfInBounds_toArray, List.set_cons_zero, List.set_cons_succ]
      refine wpAnyH_take (i := 6) (oi := { dst := some 11, op := Op.fieldAddr 78 (Operand.tmp 2) 3, type := 0, pos := "l4_scope.go:367", after := #[{ on := 5, ground := Ground.guard }], guard := some (5, true) }) (v := .pointer (some ⟨w.heap.size, 3, none⟩)) rfl (by kernel_rfl) (by kernel_rfl) (by kernel_rfl) (fun _ _ _ h => h) (Or.inl ⟨by rfl, ?_⟩) (by assumption) ?_
      · intro wS hSw
        try dsimp only at hSw
        go_simp
      try simp only [Act.put, List.setIfInBounds_toArray, List.set_cons_zero, List.set_cons_succ]
      refine wpAnyH_take (i := 7) (oi := { dst := some 12, op := Op.load 3 (Operand.tmp 11), type := 3, pos := "l4_scope.go:367", after := #[{ on := 6, ground := Ground.data }, { on := 5, ground := Ground.guard }], guard := some (5, true) }) (v := .int .i64 t.fType) rfl (by kernel_rfl) (by kernel_rfl) (by kernel_rfl) (fun _ _ _ h => h) (Or.inl ⟨by rfl, ?_⟩) (by assumption) ?_
      · intro wS hSw
        try dsimp only at hSw
        go_simp
      try simp only [Act.put, List.setIfInBounds_toArray, List.set_cons_zero, List.set_cons_succ]
      refine wpAnyH_take (i := 8) (oi := { dst := some 13, op := Op.fieldAddr 78 (Operand.tmp 3) 3, type := 0, pos := "l4_scope.go:367", after := #[{ on := 5, ground := Ground.guard }], guard := some (5, true) }) (v := .pointer (some ⟨w.heap.size + 1, 3, none⟩)) rfl (by kernel_rfl) (by kernel_rfl) (by kernel_rfl) (fun _ _ _ h => h) (Or.inl ⟨by rfl, ?_⟩) (by assumption) ?_
      · intro wS hSw
        try dsimp only at hSw
        go_simp
      try simp only [Act.put, List.setIfInBounds_toArray, List.set_cons_zero, List.set_cons_succ]
      refine wpAnyH_take (i := 9) (oi := { dst := some 14, op := Op.load 3 (Operand.tmp 13), type := 3, pos := "l4_scope.go:367", after := #[{ on := 8, ground := Ground.data }, { on := 5, ground := Ground.guard }], guard := some (5, true) }) (v := .int .i64 u.fType) rfl (by kernel_rfl) (by kernel_rfl) (by kernel_rfl) (fun _ _ _ h => h) (Or.inl ⟨by rfl, ?_⟩) (by assumption) ?_
      · intro wS hSw
        try dsimp only at hSw
        go_simp
      try simp only [Act.put, List.setIfInBounds_toArray, List.set_cons_zero, List.set_cons_succ]
      refine wpAnyH_take (i := 10) (oi := { dst := some 15, op := Op.binOp BinOp.eql 3 (Operand.tmp 12) (Operand.tmp 14) 3, type := 4, pos := "l4_scope.go:367", after := #[{ on := 7, ground := Ground.data }, { on := 9, ground := Ground.data }, { on := 5, ground := Ground.guard }], guard := some (5, true) }) (v := .bool false) rfl (by kernel_rfl) (by kernel_rfl) (by kernel_rfl) (fun _ _ _ h => h) (Or.inl ⟨by rfl, ?_⟩) (by assumption) ?_
      · intro wS hSw
        try dsimp only at hSw
        go_simp
      try simp only [Act.put, List.setIfInBounds_toArray, List.set_cons_zero, List.set_cons_succ]
      refine wpAnyH_take (i := 11) (oi := { dst := some 16, op := Op.pick (Operand.tmp 10) (Operand.tmp 15) (Operand.const (Value.bool false)), type := 4, pos := "l4_scope.go:367", after := #[{ on := 5, ground := Ground.data }, { on := 10, ground := Ground.data }], guard := none }) (v := .bool false) rfl (by kernel_rfl) (by kernel_rfl) (by kernel_rfl) (fun _ _ _ h => h) (Or.inl ⟨by rfl, ?_⟩) (by assumption) ?_
      · intro wS hSw
        try dsimp only at hSw
        go_simp
      try simp only [Act.put, List.setIfInBounds_toArray, List.set_cons_zero, List.set_cons_succ]
      refine wpAnyH_take (i := 12) (oi := { dst := some 17, op := Op.move (Operand.tmp 16), type := 4, pos := "l4_scope.go:367", after := #[{ on := 11, ground := Ground.data }, { on := 5, ground := Ground.chain }], guard := none }) (v := .bool false) rfl (by kernel_rfl) (by kernel_rfl) (by kernel_rfl) (fun _ _ _ h => h) (Or.inl ⟨by rfl, ?_⟩) (by assumption) ?_
      · intro wS hSw
        try dsimp only at hSw
        go_simp
      try simp only [Act.put, List.setIfInBounds_toArray, List.set_cons_zero, List.set_cons_succ]
      refine wpAnyH_take (i := 13) (oi := { dst := some 18, op := Op.fieldAddr 78 (Operand.tmp 2) 5, type := 0, pos := "l4_scope.go:367", after := #[{ on := 12, ground := Ground.guard }], guard := some (12, true) }) (v := undef) rfl (by kernel_rfl) (by kernel_rfl) (by kernel_rfl) (fun _ _ _ h => h) (Or.inr ⟨by rfl, rfl⟩) (by assumption) ?_
      try simp only [Act.put, List.setIfInBounds_toArray, List.set_cons_zero, List.set_cons_succ]
      refine wpAnyH_take (i := 14) (oi := { dst := some 19, op := Op.load 76 (Operand.tmp 18), type := 76, pos := "l4_scope.go:367", after := #[{ on := 13, ground := Ground.data }, { on := 12, ground := Ground.guard }], guard := some (12, true) }) (v := undef) rfl (by kernel_rfl) (by kernel_rfl) (by kernel_rfl) (fun _ _ _ h => h) (Or.inr ⟨by rfl, rfl⟩) (by assumption) ?_
      try simp only [Act.put, List.setIfInBounds_toArray, List.set_cons_zero, List.set_cons_succ]
      refine wpAnyH_take (i := 15) (oi := { dst := some 20, op := Op.fieldAddr 78 (Operand.tmp 3) 5, type := 0, pos := "l4_scope.go:367", after := #[{ on := 12, ground := Ground.guard }], guard := some (12, true) }) (v := undef) rfl (by kernel_rfl) (by kernel_rfl) (by kernel_rfl) (fun _ _ _ h => h) (Or.inr ⟨by rfl, rfl⟩) (by assumption) ?_
      try simp only [Act.put, List.setIfInBounds_toArray, List.set_cons_zero, List.set_cons_succ]
      refine wpAnyH_take (i := 16) (oi := { dst := some 21, op := Op.load 76 (Operand.tmp 20), type := 76, pos := "l4_scope.go:367", after := #[{ on := 15, ground := Ground.data }, { on := 12, ground := Ground.guard }], guard := some (12, true) }) (v := undef) rfl (by kernel_rfl) (by kernel_rfl) (by kernel_rfl) (fun _ _ _ h => h) (Or.inr ⟨by rfl, rfl⟩) (by assumption) ?_
      try simp only [Act.put, List.setIfInBounds_toArray, List.set_cons_zero, List.set_cons_succ]
      refine wpAnyH_take (i := 17) (oi := { dst := some 22, op := Op.call { callee := Callee.value (Operand.func 164), args := #[Operand.tmp 19, Operand.tmp 21], argTypes := #[76, 76] }, type := 4, pos := "l4_scope.go:367", after := #[{ on := 14, ground := Ground.data }, { on := 16, ground := Ground.data }, { on := 12, ground := Ground.chain }, { on := 12, ground := Ground.guard }], guard := some (12, true) }) (v := undef) rfl (by kernel_rfl) (by kernel_rfl) (by kernel_rfl) (fun _ _ _ h => h) (Or.inr ⟨by rfl, rfl⟩) (by assumption) ?_
      try simp only [Act.put, List.setIfInBounds_toArray, List.set_cons_zero, List.set_cons_succ]
      refine wpAnyH_take (i := 18) (oi := { dst := some 23, op := Op.pick (Operand.tmp 17) (Operand.tmp 22) (Operand.const (Value.bool false)), type := 4, pos := "l4_scope.go:367", after := #[{ on := 12, ground := Ground.data }, { on := 17, ground := Ground.data }], guard := none }) (v := .bool false) rfl (by kernel_rfl) (by kernel_rfl) (by kernel_rfl) (fun _ _ _ h => h) (Or.inl ⟨by rfl, ?_⟩) (by assumption) ?_
      · intro wS hSw
        try dsimp only at hSw
        go_simp
      try simp only [Act.put, List.setIfInBounds_toArray, List.set_cons_zero, List.set_cons_succ]
      refine wpAnyH_take (i := 19) (oi := { dst := some 4, op := Op.assign (Operand.tmp 23), type := 4, pos := "l4_scope.go:367", after := #[{ on := 18, ground := Ground.data }, { on := 17, ground := Ground.chain }, { on := 0, ground := Ground.phase }, { on := 1, ground := Ground.phase }, { on := 2, ground := Ground.phase }, { on := 3, ground := Ground.phase }, { on := 4, ground := Ground.phase }, { on := 5, ground := Ground.phase }, { on := 6, ground := Ground.phase }, { on := 7, ground := Ground.phase }, { on := 8, ground := Ground.phase }, { on := 9, ground := Ground.phase }, { on := 10, ground := Ground.phase }, { on := 11, ground := Ground.phase }, { on := 12, ground := Ground.phase }, { on := 13, ground := Ground.phase }, { on := 14, ground := Ground.phase }, { on := 15, ground := Ground.phase }, { on := 16, ground := Ground.phase }, { on := 17, ground := Ground.phase }, { on := 18, ground := Ground.phase }], guard := none }) (v := .bool false) rfl (by kernel_rfl) (by kernel_rfl) (by kernel_rfl) (fun _ _ _ h => h) (Or.inl ⟨by rfl, ?_⟩) (by assumption) ?_
      · intro wS hSw
        try dsimp only at hSw
        go_simp
      try simp only [Act.put, List.setIfInBounds_toArray, List.set_cons_zero, List.set_cons_succ]
      refine wpAnyH_done (by kernel_rfl) ?_ _
      go_wp2_with fail
      go_ret
      exact ⟨by rw [Hv.out]; rfl, HB.out⟩
    | true =>
      have p01 := Hbq.out
      go_wp2_with fail
      first
        | (go_region_held3 (fun w' => w'.cell? ⟨w.heap.size, 0, none⟩ = some (.string t.fName) ∧ w'.cell? ⟨w.heap.size, 1, none⟩ = some (.int .i64 t.fKind) ∧ w'.cell? ⟨w.heap.size, 2, none⟩ = some (.int .i64 t.fMark) ∧ w'.cell? ⟨w.heap.size, 3, none⟩ = some (.int .i64 t.fType) ∧ w'.cell? ⟨w.heap.size, 4, none⟩ = some (.int .i64 t.fValue) ∧ w'.cell? ⟨w.heap.size, 5, none⟩ = some (.slice a3 t.fParams.length c3) ∧ w'.cell? ⟨(w.heap.size + 1), 0, none⟩ = some (.string u.fName) ∧ w'.cell? ⟨(w.heap.size + 1), 1, none⟩ = some (.int .i64 u.fKind) ∧ w'.cell? ⟨(w.heap.size + 1), 2, none⟩ = some (.int .i64 u.fMark) ∧ w'.cell? ⟨(w.heap.size + 1), 3, none⟩ = some (.int .i64 u.fType) ∧ w'.cell? ⟨(w.heap.size + 1), 4, none⟩ = some (.int .i64 u.fValue) ∧ w'.cell? ⟨(w.heap.size + 1), 5, none⟩ = some (.slice b3 u.fParams.length d3))
                (first
                  | go_keep
                  | (go_split_ands
                     refine ⟨?_, ?_, ?_, ?_, ?_, ?_, ?_, ?_, ?_, ?_, ?_, ?_⟩ <;> (rw [hbh.cell (by first | (simp at *; omega) | (simp at *; done) | omega)]; assumption)))
                (first
                  | (go_at_call 77; refine (iHeadObj _ _ _ _ _ _ _ _ _).mono ?_; rintro e wh ⟨rfl, hbh⟩; have hsz := hbh.size; replace HB := Lib.hid (HB.out.trans (hbh.mono HB.out.size)); replace HR := Lib.hid (HR.out.below hbh); replace HR' := Lib.hid (HR'.out.below hbh))
                  | (go_at_call 164; refine (iEqualParam a3 b3 c3 d3 _ _ _ hl HR.out HR'.out).mono ?_; rintro e wh ⟨rfl, hbh⟩; have hsz := hbh.size; replace HB := Lib.hid (HB.out.trans (hbh.mono HB.out.size)))))
        | fail
      go_wp2_with fail
      go_ret
      exact ⟨by rw [Hv.out, Hsq.out]; rfl, HB.out⟩
end Go.Proofs.YtaccifjkeblhpaaGreat
