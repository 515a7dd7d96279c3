
/-
  What is proved: contracts of the program's isCalled and headOf; the contract of the program's areShaped. No condition beside what each theorem states.
-/
import Derived.Test.YtcekjdikoamjjaaIFields
import Derived.Test.YtcekjdikoamjjaaBMap
import Derived.Deep.RegionHeld3
import Derived.StillTailTactics
namespace Go.Proofs.Ytcekjdikoamjjaa
open Go.ChangeShapes Go.WideShapes Go.ChangeAt Go.RowKit

open Classical in
noncomputable def calledB (o n : ByteArray) : Bool := decide (calledOk o n)
theorem calledB_true {o n : ByteArray} (h : calledOk o n) : calledB o n = true := by unfold calledB; simpa using h
theorem calledB_false {o n : ByteArray} (h : ¬ calledOk o n) : calledB o n = false := by unfold calledB; simpa using h

theorem sizeHead : (Try.prog.info? 105).map (·.size) = some 6 := by kernel_rfl
theorem sizeFull : (Try.prog.info? 103).map (·.size) = some 2 := by kernel_rfl
set_option maxHeartbeats 2000000 in
theorem iCalledOf (kd lg bs : Int) (a3 : Option Addr) (n3 c3 : Nat) (o n : ByteArray) (w : World) :
    Calls Try.prog 64 #[.agg #[.int .i64 kd, .int .i64 lg, .int .i64 bs, .slice a3 n3 c3, .string o, .string n]] w fun e w' => e = .returned (.agg #[.string o, .string n]) ∧ Below w.heap.size w w' := by
  go_enter Try.func64, Try.ntmps64
  go_wp2_with fail
  refine bodyPost_ret (results_one rfl Try.underlying103 rfl _ _ (w.heap.size + 1) #[.string o, .string n] rfl 103 (Box.new' _ _ _ (by simp)) 2 sizeFull rfl) rfl ?_
  exact ⟨rfl, ((Below.refl _ _).alloc (Nat.le_refl _) _).alloc (by simp) _⟩
set_option maxRecDepth 100000 in
set_option maxHeartbeats 4000000 in
theorem iHeadOf (kd lg bs : Int) (a3 : Option Addr) (n3 c3 : Nat) (o n : ByteArray) (w : World) :
    Calls Try.prog 53 #[.agg #[.int .i64 kd, .int .i64 lg, .int .i64 bs, .slice a3 n3 c3, .string o, .string n]] w fun e w' => e = .returned (.agg #[.string o, .string n, .int .i64 kd, .int .i64 lg, .int .i64 (n3 : Int), .bool (bs != -1)]) ∧ Below w.heap.size w w' := by
  have X0 := (Box.new w 58 #[.int .i64 kd, .int .i64 lg, .int .i64 bs, .slice a3 n3 c3, .string o, .string n]).alloc (.cells #[.string ⟨#[]⟩, .string ⟨#[]⟩, .int .i64 0, .int .i64 0, .int .i64 0, .bool false] 105)
  have Y0 := Box.new' (w.alloc (.cells #[.int .i64 kd, .int .i64 lg, .int .i64 bs, .slice a3 n3 c3, .string o, .string n] 58)) 105 #[.string ⟨#[]⟩, .string ⟨#[]⟩, .int .i64 0, .int .i64 0, .int .i64 0, .bool false] (g := w.heap.size + 1) (by simp)
  have B0 := Lib.hid (((Below.refl w.heap.size w).alloc (Nat.le_refl _) (.cells #[.int .i64 kd, .int .i64 lg, .int .i64 bs, .slice a3 n3 c3, .string o, .string n] 58)).alloc (by simp) (.cells #[.string ⟨#[]⟩, .string ⟨#[]⟩, .int .i64 0, .int .i64 0, .int .i64 0, .bool false] 105))
  go_enter Try.func53, Try.ntmps53
  go_wp2_with fail
  generalize hv : ((w.alloc (.cells #[.int .i64 kd, .int .i64 lg, .int .i64 bs, .slice a3 n3 c3, .string o, .string n] 58)).alloc (.cells #[.string ⟨#[]⟩, .string ⟨#[]⟩, .int .i64 0, .int .i64 0, .int .i64 0, .bool false] 105)) = v0 at *
  have t0 := X0.cell 0
  have y0 := Y0.cell 0
  have f0 := Y0.free 0
  have t1 := X0.cell 1
  have y1 := Y0.cell 1
  have f1 := Y0.free 1
  have t2 := X0.cell 2
  have y2 := Y0.cell 2
  have f2 := Y0.free 2
  have t3 := X0.cell 3
  have y3 := Y0.cell 3
  have f3 := Y0.free 3
  have t4 := X0.cell 4
  have y4 := Y0.cell 4
  have f4 := Y0.free 4
  have t5 := X0.cell 5
  have y5 := Y0.cell 5
  have f5 := Y0.free 5
  simp at t0 t1 t2 t3 t4 t5 y0 y1 y2 y3 y4 y5
  have hlx := X0.lt
  have hly := Y0.lt
  have HY := Lib.hid Y0
  clear hv X0 Y0
  refine wp_region_held_drew (S := fun w' => w'.cell? ⟨w.heap.size, 0, none⟩ = some (.int .i64 kd) ∧ w'.cell? ⟨w.heap.size, 1, none⟩ = some (.int .i64 lg) ∧ w'.cell? ⟨w.heap.size, 2, none⟩ = some (.int .i64 bs) ∧ w'.cell? ⟨w.heap.size, 3, none⟩ = some (.slice a3 n3 c3) ∧ w'.cell? ⟨w.heap.size, 4, none⟩ = some (.string o) ∧ w'.cell? ⟨w.heap.size, 5, none⟩ = some (.string n)) (by kernel_rfl) ?_ (fun hHeld => ?_)
  · exact ⟨t0, t1, t2, t3, t4, t5⟩
  refine wpAnyH_take (i := 0) (oi := { dst := some 3, op := Op.load 58 (Operand.tmp 1), type := 58, pos := "l3_types.go:181", after := #[], guard := none }) (v := .agg #[.int .i64 kd, .int .i64 lg, .int .i64 bs, .slice a3 n3 c3, .string o, .string n]) rfl (by kernel_rfl) (by kernel_rfl) (by kernel_rfl) (fun _ _ _ h => h) (Or.inl ⟨by rfl, ?_⟩) (by assumption) ?_
  · intro wS hSw
    try dsimp only at hSw
    go_simp
  try simp only [Act.put, List.setIfInBounds_toArray, List.set_cons_zero, List.set_cons_succ]
  refine wpAnyH_take (i := 2) (oi := { dst := some 5, op := Op.fieldAddr 58 (Operand.tmp 1) 0, type := 0, pos := "l3_types.go:181", after := #[], guard := none }) (v := .pointer (some ⟨w.heap.size, 0, none⟩)) rfl (by kernel_rfl) (by kernel_rfl) (by kernel_rfl) (fun _ _ _ h => h) (Or.inl ⟨by rfl, ?_⟩) (by assumption) ?_
  · intro wS hSw
    try dsimp only at hSw
    go_simp
  try simp only [Act.put, List.setIfInBounds_toArray, List.set_cons_zero, List.set_cons_succ]
  refine wpAnyH_take (i := 3) (oi := { dst := some 6, op := Op.load 3 (Operand.tmp 5), type := 3, pos := "l3_types.go:181", after := #[{ on := 2, ground := Ground.data }], guard := none }) (v := .int .i64 kd) rfl (by kernel_rfl) (by kernel_rfl) (by kernel_rfl) (fun _ _ _ h => h) (Or.inl ⟨by rfl, ?_⟩) (by assumption) ?_
  · intro wS hSw
    try dsimp only at hSw
    go_simp
  try simp only [Act.put, List.setIfInBounds_toArray, List.set_cons_zero, List.set_cons_succ]
  refine wpAnyH_take (i := 4) (oi := { dst := some 7, op := Op.fieldAddr 58 (Operand.tmp 1) 1, type := 0, pos := "l3_types.go:181", after := #[], guard := none }) (v := .pointer (some ⟨w.heap.size, 1, none⟩)) rfl (by kernel_rfl) (by kernel_rfl) (by kernel_rfl) (fun _ _ _ h => h) (Or.inl ⟨by rfl, ?_⟩) (by assumption) ?_
  · intro wS hSw
    try dsimp only at hSw
    go_simp
  try simp only [Act.put, List.setIfInBounds_toArray, List.set_cons_zero, List.set_cons_succ]
  refine wpAnyH_take (i := 5) (oi := { dst := some 8, op := Op.load 3 (Operand.tmp 7), type := 3, pos := "l3_types.go:181", after := #[{ on := 4, ground := Ground.data }], guard := none }) (v := .int .i64 lg) rfl (by kernel_rfl) (by kernel_rfl) (by kernel_rfl) (fun _ _ _ h => h) (Or.inl ⟨by rfl, ?_⟩) (by assumption) ?_
  · intro wS hSw
    try dsimp only at hSw
    go_simp
  try simp only [Act.put, List.setIfInBounds_toArray, List.set_cons_zero, List.set_cons_succ]
  refine wpAnyH_take (i := 6) (oi := { dst := some 9, op := Op.fieldAddr 58 (Operand.tmp 1) 3, type := 0, pos := "l3_types.go:181", after := #[], guard := none }) (v := .pointer (some ⟨w.heap.size, 3, none⟩)) rfl (by kernel_rfl) (by kernel_rfl) (by kernel_rfl) (fun _ _ _ h => h) (Or.inl ⟨by rfl, ?_⟩) (by assumption) ?_
  · intro wS hSw
    try dsimp only at hSw
    go_simp
  try simp only [Act.put, List.setIfInBounds_toArray, List.set_cons_zero, List.set_cons_succ]
  refine wpAnyH_take (i := 7) (oi := { dst := some 10, op := Op.load 56 (Operand.tmp 9), type := 56, pos := "l3_types.go:181", after := #[{ on := 6, ground := Ground.data }], guard := none }) (v := .slice a3 n3 c3) rfl (by kernel_rfl) (by kernel_rfl) (by kernel_rfl) (fun _ _ _ h => h) (Or.inl ⟨by rfl, ?_⟩) (by assumption) ?_
  · intro wS hSw
    try dsimp only at hSw
    go_simp
  try simp only [Act.put, List.setIfInBounds_toArray, List.set_cons_zero, List.set_cons_succ]
  refine wpAnyH_take (i := 8) (oi := { dst := some 11, op := Op.call { callee := Callee.builtin Builtin.len, args := #[Operand.tmp 10], argTypes := #[56] }, type := 3, pos := "l3_types.go:181", after := #[{ on := 7, ground := Ground.data }], guard := none }) (v := .int .i64 (n3 : Int)) rfl (by kernel_rfl) (by kernel_rfl) (by kernel_rfl) (fun _ _ _ h => h) (Or.inl ⟨by rfl, ?_⟩) (by assumption) ?_
  · intro wS hSw
    try dsimp only at hSw
    go_simp
  try simp only [Act.put, List.setIfInBounds_toArray, List.set_cons_zero, List.set_cons_succ]
  refine wpAnyH_take (i := 9) (oi := { dst := some 12, op := Op.fieldAddr 58 (Operand.tmp 1) 2, type := 0, pos := "l3_types.go:181", after := #[], guard := none }) (v := .pointer (some ⟨w.heap.size, 2, none⟩)) rfl (by kernel_rfl) (by kernel_rfl) (by kernel_rfl) (fun _ _ _ h => h) (Or.inl ⟨by rfl, ?_⟩) (by assumption) ?_
  · intro wS hSw
    try dsimp only at hSw
    go_simp
  try simp only [Act.put, List.setIfInBounds_toArray, List.set_cons_zero, List.set_cons_succ]
  refine wpAnyH_take (i := 10) (oi := { dst := some 13, op := Op.load 3 (Operand.tmp 12), type := 3, pos := "l3_types.go:181", after := #[{ on := 9, ground := Ground.data }], guard := none }) (v := .int .i64 bs) rfl (by kernel_rfl) (by kernel_rfl) (by kernel_rfl) (fun _ _ _ h => h) (Or.inl ⟨by rfl, ?_⟩) (by assumption) ?_
  · intro wS hSw
    try dsimp only at hSw
    go_simp
  try simp only [Act.put, List.setIfInBounds_toArray, List.set_cons_zero, List.set_cons_succ]
  refine wpAnyH_take (i := 11) (oi := { dst := some 14, op := Op.binOp BinOp.neq 3 (Operand.tmp 13) (Operand.const (Value.int IntKind.i64 (-1))) 3, type := 4, pos := "l3_types.go:181", after := #[{ on := 10, ground := Ground.data }], guard := none }) (v := .bool (bs != -1)) rfl (by kernel_rfl) (by kernel_rfl) (by kernel_rfl) (fun _ _ _ h => h) (Or.inl ⟨by rfl, ?_⟩) (by assumption) ?_
  · intro wS hSw
    try dsimp only at hSw
    go_simp
  try simp only [Act.put, List.setIfInBounds_toArray, List.set_cons_zero, List.set_cons_succ]
  refine wpAnyH_ready (rs := [1]) (by kernel_rfl) (by simp) ?_
  refine AllReadyH.cons (o := { dst := some 4, op := Op.call { callee := Callee.value (Operand.func 64), args := #[Operand.tmp 3], argTypes := #[58] }, type := 103, pos := "l3_types.go:182", after := #[{ on := 0, ground := Ground.data }], guard := none }) rfl (fun K hK => ?_) AllReadyH.nil
  go_simp
  go_at_call 64
  refine (iCalledOf _ _ _ _ _ _ _ _ _).mono ?_
  rintro e wh ⟨rfl, hbh⟩
  have hsz := hbh.size
  refine hK.out _ _ ?_ (fun hHeld2 => ?_)
  · try dsimp only
    exact ⟨(hbh.cell (p := ⟨w.heap.size, 0, none⟩) hlx).trans t0, (hbh.cell (p := ⟨w.heap.size, 1, none⟩) hlx).trans t1, (hbh.cell (p := ⟨w.heap.size, 2, none⟩) hlx).trans t2, (hbh.cell (p := ⟨w.heap.size, 3, none⟩) hlx).trans t3, (hbh.cell (p := ⟨w.heap.size, 4, none⟩) hlx).trans t4, (hbh.cell (p := ⟨w.heap.size, 5, none⟩) hlx).trans t5⟩
  clear hK K hHeld
  have hHeld := hHeld2
  try simp only [Act.put, List.setIfInBounds_toArray, List.set_cons_zero, List.set_cons_succ]
  refine wpAnyH_take (i := 12) (oi := { dst := some 15, op := Op.build 105 #[(0, Operand.tmp 4), (1, Operand.tmp 6), (2, Operand.tmp 8), (3, Operand.tmp 11), (4, Operand.tmp 14)], type := 105, pos := "l3_types.go:181", after := #[{ on := 1, ground := Ground.data }, { on := 3, ground := Ground.data }, { on := 5, ground := Ground.data }, { on := 8, ground := Ground.data }, { on := 11, ground := Ground.data }], guard := none }) (v := .agg #[.string o, .string n, .int .i64 kd, .int .i64 lg, .int .i64 (n3 : Int), .bool (bs != -1)]) rfl (by kernel_rfl) (by kernel_rfl) (by kernel_rfl) (fun _ _ _ h => h) (Or.inl ⟨by rfl, ?_⟩) (by assumption) ?_
  · intro wS hSw
    try dsimp only at hSw
    go_simp
  try simp only [Act.put, List.setIfInBounds_toArray, List.set_cons_zero, List.set_cons_succ]
  have HB := Lib.hid ((belowN B0.out 1).trans (hbh.mono (belowN B0.out 1).size))
  have HYw := (HY.out.drew).below hbh hly
  have z0 := HYw.cell 0
  have f0 := HYw.free 0
  have z1 := HYw.cell 1
  have f1 := HYw.free 1
  have z2 := HYw.cell 2
  have f2 := HYw.free 2
  have z3 := HYw.cell 3
  have f3 := HYw.free 3
  have z4 := HYw.cell 4
  have f4 := HYw.free 4
  have z5 := HYw.cell 5
  have f5 := HYw.free 5
  simp at z0 z1 z2 z3 z4 z5
  have HZ := Lib.hid HYw
  clear HYw HY B0 t0 t1 t2 t3 t4 t5 hbh
  refine wpAnyH_ready (rs := [13]) (by kernel_rfl) (by simp) ?_
  refine AllReadyH.cons (o := { dst := none, op := Op.store 105 (Operand.tmp 2) (Operand.tmp 15), type := 0, pos := "l3_types.go:181", after := #[{ on := 12, ground := Ground.data }, { on := 1, ground := Ground.chain }, { on := 0, ground := Ground.phase }, { on := 1, ground := Ground.phase }, { on := 2, ground := Ground.phase }, { on := 3, ground := Ground.phase }, { on := 4, ground := Ground.phase }, { on := 5, ground := Ground.phase }, { on := 6, ground := Ground.phase }, { on := 7, ground := Ground.phase }, { on := 8, ground := Ground.phase }, { on := 9, ground := Ground.phase }, { on := 10, ground := Ground.phase }, { on := 11, ground := Ground.phase }, { on := 12, ground := Ground.phase }], guard := none }) rfl (fun K hK => ?_) AllReadyH.nil
  go_simp
  refine hK.out _ _ ?_ (fun hHeld3 => ?_)
  · try dsimp only
    have ne : (w.heap.size : Nat) ≠ w.heap.size + 1 := by omega
    go_keep
  clear hK K
  refine wpAnyH_done (by kernel_rfl) ?_ _
  go_wp2_with fail
  refine bodyPost_ret (results_one rfl Try.underlying105 rfl _ _ (w.heap.size + 1) #[.string o, .string n, .int .i64 kd, .int .i64 lg, .int .i64 (n3 : Int), .bool (bs != -1)] rfl 105 ?qbox 6 sizeHead rfl) rfl ?_
  case qbox => exact ((((((HZ.out.set 0 _).set 1 _).set 2 _).set 3 _).set 4 _).set 5 _)
  have hb := HB.out
  exact ⟨rfl, ((((((hb.setCell (by show w.heap.size ≤ w.heap.size + 1; omega) _).setCell (by show w.heap.size ≤ w.heap.size + 1; omega) _).setCell (by show w.heap.size ≤ w.heap.size + 1; omega) _).setCell (by show w.heap.size ≤ w.heap.size + 1; omega) _).setCell (by show w.heap.size ≤ w.heap.size + 1; omega) _).setCell (by show w.heap.size ≤ w.heap.size + 1; omega) _)⟩

/-- All that is asked of a type but for what it is called. -/
def shapedOk (l : List TypeD) (t : TypeD) : Prop :=
  (t.fKind = 4 ∧ (1 ≤ t.fLong ∧ t.fLong ≤ 1000) ∧ (0 ≤ t.fBase ∧ t.fBase < (l.length : Int)) ∧ t.fFields.length = 0) ∨
   (t.fKind = 5 ∧ t.fLong = 0 ∧ (t.fBase = -1 ∨ kindZ l t.fBase = 5) ∧ fieldsOk l.length t.fFields) ∨
   (t.fKind = 6 ∧ t.fLong = 0 ∧ (kindZ l t.fBase = 5 ∨ kindZ l t.fBase = 4) ∧ t.fFields.length = 0)
theorem typeOk_iff {l : List TypeD} {t : TypeD} : typeOk l t ↔ calledOk t.fOwner t.fName ∧ shapedOk l t := Iff.rfl
open Classical in
noncomputable def shapedB (l : List TypeD) (t : TypeD) : Bool := decide (shapedOk l t)
theorem shapedB_true {l : List TypeD} {t : TypeD} (h : shapedOk l t) : shapedB l t = true := by unfold shapedB; simpa using h
theorem shapedB_false {l : List TypeD} {t : TypeD} (h : ¬ shapedOk l t) : shapedB l t = false := by unfold shapedB; simpa using h

end Go.Proofs.Ytcekjdikoamjjaa

namespace Go.Proofs.Ytcekjdikoamjjaa
open Go.ChangeShapes Go.WideShapes Go.ChangeAt Go.RowKit Go.WideMaps

theorem empty_of {s : ByteArray} (h : s.size = 0) : s = ⟨#[]⟩ := by
  obtain ⟨⟨l⟩⟩ := s
  have : l.length = 0 := h
  cases l with
  | nil => rfl
  | cons _ _ => simp at this

/-- What the program's table of full names tells behind k types. -/
def toldT (l : List TypeD) (k : Nat) (f : Lit → Bool) : Prop := ∀ o n : ByteArray, o.size ≤ maxLen → n.size ≤ maxLen → (f (fullK o n) = true ↔ ∃ i, ∃ h : i < l.length, 3 ≤ i ∧ i < k ∧ l[i].fName.size ≠ 0 ∧ l[i].fOwner = o ∧ l[i].fName = n)
theorem toldT_three {l : List TypeD} : toldT l 3 (fun _ => false) := fun _ _ _ _ => ⟨fun h => (by cases h), fun ⟨_, _, h, h', _⟩ => absurd h (by omega)⟩
theorem toldT_put {l : List TypeD} {k : Nat} {f : Lit → Bool} (hk : 3 + k < l.length) (h : toldT l (3 + k) f) (hm : ∀ t ∈ l, t.mod) (x : Bool) (hx : x = true ↔ l[3 + k].fName.size ≠ 0) :
    toldT l (3 + (k + 1)) (updB f (fullK l[3 + k].fOwner l[3 + k].fName) x) := fun o n ho hn => by
  obtain ⟨h1, h2, _⟩ := hm _ (List.getElem_mem hk)
  by_cases e : o = l[3 + k].fOwner ∧ n = l[3 + k].fName
  · obtain ⟨rfl, rfl⟩ := e
    rw [updB_same, hx]
    constructor
    · intro h0
      exact ⟨3 + k, hk, by omega, by omega, h0, rfl, rfl⟩
    · rintro ⟨i, hi, _, _, h0, _, h3⟩
      rw [← h3]
      exact h0
  · rw [updB_other _ _ (fun e2 => e (fullK_inj ho hn h1 h2 e2)), h o n ho hn]
    constructor
    · rintro ⟨i, hi, h3, h4, h5⟩
      exact ⟨i, hi, h3, by omega, h5⟩
    · rintro ⟨i, hi, h3, h4, h5, h6, h7⟩
      refine ⟨i, hi, h3, ?_, h5, h6, h7⟩
      by_cases e3 : i = 3 + k
      · subst e3; exact absurd ⟨h6.symm, h7.symm⟩ e
      · omega

end Go.Proofs.Ytcekjdikoamjjaa
