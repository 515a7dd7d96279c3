
/-
  What is proved: contracts of the program's isCalled and headOf; the contract of the program's areShaped. No condition beside what each theorem states.
-/
import Derived.Test.YtllddjmcemcdhaaGreatIFields
import Derived.Test.YtllddjmcemcdhaaGreatBMap
import Derived.Deep.RegionHeld3
import Derived.StillTailTactics
namespace Go.Proofs.YtllddjmcemcdhaaGreat
open Go.ChangeShapes Go.WideShapes Go.ChangeAt Go.RowKit

open Classical in
noncomputable def calledB (o n : ByteArray) : Bool := decide (calledOk o n)
theorem calledB_true {o n : ByteArray} (h : calledOk o n) : calledB o n = true := by unfold calledB; simpa using h
theorem calledB_false {o n : ByteArray} (h : ¬ calledOk o n) : calledB o n = false := by unfold calledB; simpa using h

set_option maxHeartbeats 2000000 in
theorem iIsCalled (o n : ByteArray) (w : World) (ho : o.size ≤ maxLen) (hn : n.size ≤ maxLen) :
    Calls Tryz.prog 102 #[.agg #[.string o, .string n]] w fun e w' => e = .returned (.bool (calledB o n)) ∧ Below w.heap.size w w' := by
  by_cases h1 : o.size = 0
  · have e1 := isEmpty_of h1
    by_cases h2 : n.size = 0
    · have e2 := isEmpty_of h2
      have Hv := Lib.hid (calledB_true (.inr ⟨h1, h2⟩))
      go_enter Tryz.func102, Tryz.ntmps102
      go_wp2_with fail
      go_ret
      exact ⟨by rw [Hv.out]; rfl, (Below.refl _ _).alloc (Nat.le_refl _) _⟩
    · have e2 := isEmpty_not h2
      have qo := nameB_false (s := o) (fun h => by have := h.1; omega)
      have Hv := Lib.hid (calledB_false (o := o) (n := n) (fun h => h.elim (fun h => by have := h.1.1; omega) (fun h => h2 h.2)))
      go_enter Tryz.func102, Tryz.ntmps102
      go_wp2_with (go_at_call 50; refine (iGoodName _ _ (by first | exact ho | exact hn)).mono ?_; rintro e w' ⟨rfl, rfl⟩)
      go_ret
      exact ⟨by rw [Hv.out]; rfl, (Below.refl _ _).alloc (Nat.le_refl _) _⟩
  · have e1 := isEmpty_not h1
    by_cases q1 : nameP o
    · have qo := nameB_true q1
      by_cases q2 : nameP n
      · have qn := nameB_true q2
        have Hv := Lib.hid (calledB_true (.inl ⟨q1, q2⟩))
        go_enter Tryz.func102, Tryz.ntmps102
        go_wp2_with (go_at_call 50; refine (iGoodName _ _ (by first | exact ho | exact hn)).mono ?_; rintro e w' ⟨rfl, rfl⟩)
        go_ret
        exact ⟨by rw [Hv.out]; rfl, (Below.refl _ _).alloc (Nat.le_refl _) _⟩
      · have qn := nameB_false q2
        have Hv := Lib.hid (calledB_false (o := o) (n := n) (fun h => h.elim (fun h => q2 h.2) (fun h => h1 h.1)))
        go_enter Tryz.func102, Tryz.ntmps102
        go_wp2_with (go_at_call 50; refine (iGoodName _ _ (by first | exact ho | exact hn)).mono ?_; rintro e w' ⟨rfl, rfl⟩)
        go_ret
        exact ⟨by rw [Hv.out]; rfl, (Below.refl _ _).alloc (Nat.le_refl _) _⟩
    · have qo := nameB_false q1
      have Hv := Lib.hid (calledB_false (o := o) (n := n) (fun h => h.elim (fun h => q1 h.1) (fun h => h1 h.1)))
      go_enter Tryz.func102, Tryz.ntmps102
      go_wp2_with (go_at_call 50; refine (iGoodName _ _ (by first | exact ho | exact hn)).mono ?_; rintro e w' ⟨rfl, rfl⟩)
      go_ret
      exact ⟨by rw [Hv.out]; rfl, (Below.refl _ _).alloc (Nat.le_refl _) _⟩

theorem sizeHead : (Tryz.prog.info? 160).map (·.size) = some 6 := by kernel_rfl
theorem sizeFull : (Tryz.prog.info? 158).map (·.size) = some 2 := by kernel_rfl
set_option maxHeartbeats 2000000 in
theorem iCalledOf (kd lg bs : Int) (a3 : Option Addr) (n3 c3 : Nat) (o n : ByteArray) (w : World) :
    Calls Tryz.prog 100 #[.agg #[.int .i64 kd, .int .i64 lg, .int .i64 bs, .slice a3 n3 c3, .string o, .string n]] w fun e w' => e = .returned (.agg #[.string o, .string n]) ∧ Below w.heap.size w w' := by
  go_enter Tryz.func100, Tryz.ntmps100
  go_wp2_with fail
  refine bodyPost_ret (results_one rfl Tryz.underlying158 rfl _ _ (w.heap.size + 1) #[.string o, .string n] rfl 158 (Box.new' _ _ _ (by simp)) 2 sizeFull rfl) rfl ?_
  exact ⟨rfl, ((Below.refl _ _).alloc (Nat.le_refl _) _).alloc (by simp) _⟩
set_option maxRecDepth 100000 in
set_option maxHeartbeats 4000000 in
theorem iHeadOf (kd lg bs : Int) (a3 : Option Addr) (n3 c3 : Nat) (o n : ByteArray) (w : World) :
    Calls Tryz.prog 99 #[.agg #[.int .i64 kd, .int .i64 lg, .int .i64 bs, .slice a3 n3 c3, .string o, .string n]] w fun e w' => e = .returned (.agg #[.string o, .string n, .int .i64 kd, .int .i64 lg, .int .i64 (n3 : Int), .bool (bs != -1)]) ∧ Below w.heap.size w w' := by
  have X0 := (Box.new w 110 #[.int .i64 kd, .int .i64 lg, .int .i64 bs, .slice a3 n3 c3, .string o, .string n]).alloc (.cells #[.string ⟨#[]⟩, .string ⟨#[]⟩, .int .i64 0, .int .i64 0, .int .i64 0, .bool false] 160)
  have Y0 := Box.new' (w.alloc (.cells #[.int .i64 kd, .int .i64 lg, .int .i64 bs, .slice a3 n3 c3, .string o, .string n] 110)) 160 #[.string ⟨#[]⟩, .string ⟨#[]⟩, .int .i64 0, .int .i64 0, .int .i64 0, .bool false] (g := w.heap.size + 1) (by simp)
  have B0 := Lib.hid (((Below.refl w.heap.size w).alloc (Nat.le_refl _) (.cells #[.int .i64 kd, .int .i64 lg, .int .i64 bs, .slice a3 n3 c3, .string o, .string n] 110)).alloc (by simp) (.cells #[.string ⟨#[]⟩, .string ⟨#[]⟩, .int .i64 0, .int .i64 0, .int .i64 0, .bool false] 160))
  go_enter Tryz.func99, Tryz.ntmps99
  go_wp2_with fail
  generalize hv : ((w.alloc (.cells #[.int .i64 kd, .int .i64 lg, .int .i64 bs, .slice a3 n3 c3, .string o, .string n] 110)).alloc (.cells #[.string ⟨#[]⟩, .string ⟨#[]⟩, .int .i64 0, .int .i64 0, .int .i64 0, .bool false] 160)) = v0 at *
  have t0 := X0.cell 0
  have y0 := Y0.cell 0
  have f0 := Y0.free 0
  have t1 := X0.cell 1
  have y1 := Y0.cell 1
  have f1 := Y0.free 1
  have t2 := X0.cell 2
  have y2 := Y0.cell 2
  have f2 := Y0.free 2
  have t3 := X0.cell 3
  have y3 := Y0.cell 3
  have f3 := Y0.free 3
  have t4 := X0.cell 4
  have y4 := Y0.cell 4
  have f4 := Y0.free 4
  have t5 := X0.cell 5
  have y5 := Y0.cell 5
  have f5 := Y0.free 5
  simp at t0 t1 t2 t3 t4 t5 y0 y1 y2 y3 y4 y5
  have hlx := X0.lt
  have hly := Y0.lt
  have HY := Lib.hid Y0
  clear hv X0 Y0
  refine wp_region_held_drew (S := fun w' => w'.cell? ⟨w.heap.size, 0, none⟩ = some (.int .i64 kd) ∧ w'.cell? ⟨w.heap.size, 1, none⟩ = some (.int .i64 lg) ∧ w'.cell? ⟨w.heap.size, 2, none⟩ = some (.int .i64 bs) ∧ w'.cell? ⟨w.heap.size, 3, none⟩ = some (.slice a3 n3 c3) ∧ w'.cell? ⟨w.heap.size, 4, none⟩ = some (.string o) ∧ w'.cell? ⟨w.heap.size, 5, none⟩ = some (.string n)) (by kernel_rfl) ?_ (fun hHeld => ?_)
  · exact ⟨t0, t1, t2, t3, t4, t5⟩
  refine wpAnyH_take (i := 0) (oi := { dst := some 3, op := Op.load 110 (Operand.tmp 1), type := 110, pos := "l3_types.go:181", after := #[], guard := none }) (v := .agg #[.int .i64 kd, .int .i64 lg, .int .i64 bs, .slice a3 n3 c3, .string o, .string n]) rfl (by kernel_rfl) (by kernel_rfl) (by kernel_rfl) (fun _ _ _ h => h) (Or.inl ⟨by rfl, ?_⟩) (by assumption) ?_
  · intro wS hSw
    try dsimp only at hSw
    go_simp
  try simp only [Act.put, List.setIfInBounds_toArray, List.set_cons_zero, List.set_cons_succ]
  refine wpAnyH_take (i := 2) (oi := { dst := some 5, op := Op.fieldAddr 110 (Operand.tmp 1) 0, type := 0, pos := "l3_types.go:181", after := #[], guard := none }) (v := .pointer (some ⟨w.heap.size, 0, none⟩)) rfl (by kernel_rfl) (by kernel_rfl) (by kernel_rfl) (fun _ _ _ h => h) (Or.inl ⟨by rfl, ?_⟩) (by assumption) ?_
  · intro wS hSw
    try dsimp only at hSw
    go_simp
  try simp only [Act.put, List.setIfInBounds_toArray, List.set_cons_zero, List.set_cons_succ]
  refine wpAnyH_take (i := 3) (oi := { dst := some 6, op := Op.load 3 (Operand.tmp 5), type := 3, pos := "l3_types.go:181", after := #[{ on := 2, ground := Ground.data }], guard := none }) (v := .int .i64 kd) rfl (by kernel_rfl) (by kernel_rfl) (by kernel_rfl) (fun _ _ _ h => h) (Or.inl ⟨by rfl, ?_⟩) (by assumption) ?_
  · intro wS hSw
    try dsimp only at hSw
    go_simp
  try simp only [Act.put, List.setIfInBounds_toArray, List.set_cons_zero, List.set_cons_succ]
  refine wpAnyH_take (i := 4) (oi := { dst := some 7, op := Op.fieldAddr 110 (Operand.tmp 1) 1, type := 0, pos := "l3_types.go:181", after := #[], guard := none }) (v := .pointer (some ⟨w.heap.size, 1, none⟩)) rfl (by kernel_rfl) (by kernel_rfl) (by kernel_rfl) (fun _ _ _ h => h) (Or.inl ⟨by rfl, ?_⟩) (by assumption) ?_
  · intro wS hSw
    try dsimp only at hSw
    go_simp
  try simp only [Act.put, List.setIfInBounds_toArray, List.set_cons_zero, List.set_cons_succ]
  refine wpAnyH_take (i := 5) (oi := { dst := some 8, op := Op.load 3 (Operand.tmp 7), type := 3, pos := "l3_types.go:181", after := #[{ on := 4, ground := Ground.data }], guard := none }) (v := .int .i64 lg) rfl (by kernel_rfl) (by kernel_rfl) (by kernel_rfl) (fun _ _ _ h => h) (Or.inl ⟨by rfl, ?_⟩) (by assumption) ?_
  · intro wS hSw
    try dsimp only at hSw
    go_simp
  try simp only [Act.put, List.setIfInBounds_toArray, List.set_cons_zero, List.set_cons_succ]
  refine wpAnyH_take (i := 6) (oi := { dst := some 9, op := Op.fieldAddr 110 (Operand.tmp 1) 3, type := 0, pos := "l3_types.go:181", after := #[], guard := none }) (v := .pointer (some ⟨w.heap.size, 3, none⟩)) rfl (by kernel_rfl) (by kernel_rfl) (by kernel_rfl) (fun _ _ _ h => h) (Or.inl ⟨by rfl, ?_⟩) (by assumption) ?_
  · intro wS hSw
    try dsimp only at hSw
    go_simp
  try simp only [Act.put, List.setIfInBounds_toArray, List.set_cons_zero, List.set_cons_succ]
  refine wpAnyH_take (i := 7) (oi := { dst := some 10, op := Op.load 108 (Operand.tmp 9), type := 108, pos := "l3_types.go:181", after := #[{ on := 6, ground := Ground.data }], guard := none }) (v := .slice a3 n3 c3) rfl (by kernel_rfl) (by kernel_rfl) (by kernel_rfl) (fun _ _ _ h => h) (Or.inl ⟨by rfl, ?_⟩) (by assumption) ?_
  · intro wS hSw
    try dsimp only at hSw
    go_simp
  try simp only [Act.put, List.setIfInBounds_toArray, List.set_cons_zero, List.set_cons_succ]
  refine wpAnyH_take (i := 8) (oi := { dst := some 11, op := Op.call { callee := Callee.builtin Builtin.len, args := #[Operand.tmp 10], argTypes := #[108] }, type := 3, pos := "l3_types.go:181", after := #[{ on := 7, ground := Ground.data }], guard := none }) (v := .int .i64 (n3 : Int)) rfl (by kernel_rfl) (by kernel_rfl) (by kernel_rfl) (fun _ _ _ h => h) (Or.inl ⟨by rfl, ?_⟩) (by assumption) ?_
  · intro wS hSw
    try dsimp only at hSw
    go_simp
  try simp only [Act.put, List.setIfInBounds_toArray, List.set_cons_zero, List.set_cons_succ]
  refine wpAnyH_take (i := 9) (oi := { dst := some 12, op := Op.fieldAddr 110 (Operand.tmp 1) 2, type := 0, pos := "l3_types.go:181", after := #[], guard := none }) (v := .pointer (some ⟨w.heap.size, 2, none⟩)) rfl (by kernel_rfl) (by kernel_rfl) (by kernel_rfl) (fun _ _ _ h => h) (Or.inl ⟨by rfl, ?_⟩) (by assumption) ?_
  · intro wS hSw
    try dsimp only at hSw
    go_simp
  try simp only [Act.put, List.setIfInBounds_toArray, List.set_cons_zero, List.set_cons_succ]
  refine wpAnyH_take (i := 10) (oi := { dst := some 13, op := Op.load 3 (Operand.tmp 12), type := 3, pos := "l3_types.go:181", after := #[{ on := 9, ground := Ground.data }], guard := none }) (v := .int .i64 bs) rfl (by kernel_rfl) (by kernel_rfl) (by kernel_rfl) (fun _ _ _ h => h) (Or.inl ⟨by rfl, ?_⟩) (by assumption) ?_
  · intro wS hSw
    try dsimp only at hSw
    go_simp
  try simp only [Act.put, List.setIfInBounds_toArray, List.set_cons_zero, List.set_cons_succ]
  refine wpAnyH_take (i := 11) (oi := { dst := some 14, op := Op.binOp BinOp.neq 3 (Operand.tmp 13) (Operand.const (Value.int IntKind.i64 (-1))) 3, type := 4, pos := "l3_types.go:181", after := #[{ on := 10, ground := Ground.data }], guard := none }) (v := .bool (bs != -1)) rfl (by kernel_rfl) (by kernel_rfl) (by kernel_rfl) (fun _ _ _ h => h) (Or.inl ⟨by rfl, ?_⟩) (by assumption) ?_
  · intro wS hSw
    try dsimp only at hSw
    go_simp
  try simp only [Act.put, List.setIfInBounds_toArray, List.set_cons_zero, List.set_cons_succ]
  refine wpAnyH_ready (rs := [1]) (by kernel_rfl) (by simp) ?_
  refine AllReadyH.cons (o := { dst := some 4, op := Op.call { callee := Callee.value (Operand.func 100), args := #[Operand.tmp 3], argTypes := #[110] }, type := 158, pos := "l3_types.go:182", after := #[{ on := 0, ground := Ground.data }], guard := none }) rfl (fun K hK => ?_) AllReadyH.nil
  go_simp
  go_at_call 100
  refine (iCalledOf _ _ _ _ _ _ _ _ _).mono ?_
  rintro e wh ⟨rfl, hbh⟩
  have hsz := hbh.size
  refine hK.out _ _ ?_ (fun hHeld2 => ?_)
  · try dsimp only
    exact ⟨(hbh.cell (p := ⟨w.heap.size, 0, none⟩) hlx).trans t0, (hbh.cell (p := ⟨w.heap.size, 1, none⟩) hlx).trans t1, (hbh.cell (p := ⟨w.heap.size, 2, none⟩) hlx).trans t2, (hbh.cell (p := ⟨w.heap.size, 3, none⟩) hlx).trans t3, (hbh.cell (p := ⟨w.heap.size, 4, none⟩) hlx).trans t4, (hbh.cell (p := ⟨w.heap.size, 5, none⟩) hlx).trans t5⟩
  clear hK K hHeld
  have hHeld := hHeld2
  try simp only [Act.put, List.setIfInBounds_toArray, List.set_cons_zero, List.set_cons_succ]
  refine wpAnyH_take (i := 12) (oi := { dst := some 15, op := Op.build 160 #[(0, Operand.tmp 4), (1, Operand.tmp 6), (2, Operand.tmp 8), (3, Operand.tmp 11), (4, Operand.tmp 14)], type := 160, pos := "l3_types.go:181", after := #[{ on := 1, ground := Ground.data }, { on := 3, ground := Ground.data }, { on := 5, ground := Ground.data }, { on := 8, ground := Ground.data }, { on := 11, ground := Ground.data }], guard := none }) (v := .agg #[.string o, .string n, .int .i64 kd, .int .i64 lg, .int .i64 (n3 : Int), .bool (bs != -1)]) rfl (by kernel_rfl) (by kernel_rfl) (by kernel_rfl) (fun _ _ _ h => h) (Or.inl ⟨by rfl, ?_⟩) (by assumption) ?_
  · intro wS hSw
    try dsimp only at hSw
    go_simp
  try simp only [Act.put, List.setIfInBounds_toArray, List.set_cons_zero, List.set_cons_succ]
  have HB := Lib.hid ((belowN B0.out 1).trans (hbh.mono (belowN B0.out 1).size))
  have HYw := (HY.out.drew).below hbh hly
  have z0 := HYw.cell 0
  have f0 := HYw.free 0
  have z1 := HYw.cell 1
  have f1 := HYw.free 1
  have z2 := HYw.cell 2
  have f2 := HYw.free 2
  have z3 := HYw.cell 3
  have f3 := HYw.free 3
  have z4 := HYw.cell 4
  have f4 := HYw.free 4
  have z5 := HYw.cell 5
  have f5 := HYw.free 5
  simp at z0 z1 z2 z3 z4 z5
  have HZ := Lib.hid HYw
  clear HYw HY B0 t0 t1 t2 t3 t4 t5 hbh
  refine wpAnyH_ready (rs := [13]) (by kernel_rfl) (by simp) ?_
  refine AllReadyH.cons (o := { dst := none, op := Op.store 160 (Operand.tmp 2) (Operand.tmp 15), type := 0, pos := "l3_types.go:181", after := #[{ on := 12, ground := Ground.data }, { on := 1, ground := Ground.chain }, { on := 0, ground := Ground.phase }, { on := 1, ground := Ground.phase }, { on := 2, ground := Ground.phase }, { on := 3, ground := Ground.phase }, { on := 4, ground := Ground.phase }, { on := 5, ground := Ground.phase }, { on := 6, ground := Ground.phase }, { on := 7, ground := Ground.phase }, { on := 8, ground := Ground.phase }, { on := 9, ground := Ground.phase }, { on := 10, ground := Ground.phase }, { on := 11, ground := Ground.phase }, { on := 12, ground := Ground.phase }], guard := none }) rfl (fun K hK => ?_) AllReadyH.nil
  go_simp
  refine hK.out _ _ ?_ (fun hHeld3 => ?_)
  · try dsimp only
    have ne : (w.heap.size : Nat) ≠ w.heap.size + 1 := by omega
    go_keep
  clear hK K
  refine wpAnyH_done (by kernel_rfl) ?_ _
  go_wp2_with fail
  refine bodyPost_ret (results_one rfl Tryz.underlying160 rfl _ _ (w.heap.size + 1) #[.string o, .string n, .int .i64 kd, .int .i64 lg, .int .i64 (n3 : Int), .bool (bs != -1)] rfl 160 ?qbox 6 sizeHead rfl) rfl ?_
  case qbox => exact ((((((HZ.out.set 0 _).set 1 _).set 2 _).set 3 _).set 4 _).set 5 _)
  have hb := HB.out
  exact ⟨rfl, ((((((hb.setCell (by show w.heap.size ≤ w.heap.size + 1; omega) _).setCell (by show w.heap.size ≤ w.heap.size + 1; omega) _).setCell (by show w.heap.size ≤ w.heap.size + 1; omega) _).setCell (by show w.heap.size ≤ w.heap.size + 1; omega) _).setCell (by show w.heap.size ≤ w.heap.size + 1; omega) _).setCell (by show w.heap.size ≤ w.heap.size + 1; omega) _)⟩

/-- All that is asked of a type but for what it is called. -/
def shapedOk (l : List TypeD) (t : TypeD) : Prop :=
  (t.fKind = 4 ∧ (1 ≤ t.fLong ∧ t.fLong ≤ 1000) ∧ (0 ≤ t.fBase ∧ t.fBase < (l.length : Int)) ∧ t.fFields.length = 0) ∨
   (t.fKind = 5 ∧ t.fLong = 0 ∧ (t.fBase = -1 ∨ kindZ l t.fBase = 5) ∧ fieldsOk l.length t.fFields) ∨
   (t.fKind = 6 ∧ t.fLong = 0 ∧ (kindZ l t.fBase = 5 ∨ kindZ l t.fBase = 4) ∧ t.fFields.length = 0)
theorem typeOk_iff {l : List TypeD} {t : TypeD} : typeOk l t ↔ calledOk t.fOwner t.fName ∧ shapedOk l t := Iff.rfl
open Classical in
noncomputable def shapedB (l : List TypeD) (t : TypeD) : Bool := decide (shapedOk l t)
theorem shapedB_true {l : List TypeD} {t : TypeD} (h : shapedOk l t) : shapedB l t = true := by unfold shapedB; simpa using h
theorem shapedB_false {l : List TypeD} {t : TypeD} (h : ¬ shapedOk l t) : shapedB l t = false := by unfold shapedB; simpa using h

set_option maxRecDepth 100000 in
set_option maxHeartbeats 4000000 in
theorem iIsShaped (a : Option Addr) (c : Nat) (l : List TypeD) (t : TypeD) (a3 : Option Addr) (c3 : Nat) (w : World) (hr : Rows typeS Any w a l) (hm : t.mod) (hf : Rows fieldS Any w a3 t.fFields) :
    Calls Tryz.prog 101 #[.slice a l.length c, .agg #[.int .i64 t.fKind, .int .i64 t.fLong, .int .i64 t.fBase, .slice a3 t.fFields.length c3, .string t.fOwner, .string t.fName]] w fun e w' => e = .returned (.bool (shapedB l t)) ∧ Below w.heap.size w w' := by
  obtain ⟨_, _, hs3, hs4⟩ := hm
  have R := Lib.hid hr
  have F := Lib.hid hf
  clear hr hf
  by_cases hk5 : t.fKind = 5
  · by_cases hl0 : t.fLong = 0
    · by_cases hb1 : t.fBase = -1
      · have hb2 : (t.fBase == -1) = true := beq_iff_eq.2 hb1
        have Hv := Lib.hid (show shapedB l t = fieldsB l.length t.fFields from by
          by_cases hF : fieldsOk l.length t.fFields
          · rw [fieldsB_true hF, shapedB_true (.inr (.inl ⟨hk5, hl0, .inl hb1, hF⟩))]
          · rw [fieldsB_false hF, shapedB_false]
            rintro (⟨h, _⟩ | ⟨_, _, _, h⟩ | ⟨h, _⟩)
            · omega
            · exact hF h
            · omega)
        go_enter Tryz.func101, Tryz.ntmps101
        go_wp2_with (first | (go_at_call 119; refine (iKindAt _ _ l _ _ (R.out.below ((Below.refl _ _).alloc (Nat.le_refl _) _))).mono ?_; rintro e w' ⟨rfl, rfl⟩) | (go_at_call 105; refine (iTypeNumber _ _ _ _ _).mono ?_; rw [hd]; rintro e w' ⟨rfl, rfl⟩) | (go_at_call 120; refine (iAreFields _ _ _ _ _ t.fFields _ hs3 hs4 (F.out.below ((Below.refl _ _).alloc (Nat.le_refl _) _))).mono ?_; rintro e w' ⟨rfl, hbF⟩))
        go_ret
        exact ⟨by rw [Hv.out]; rfl, ((Below.refl w.heap.size w).alloc (Nat.le_refl _) _).trans (hbF.mono (by simp))⟩
      have hb2 : (t.fBase == -1) = false := beq_eq_false_iff_ne.2 hb1
      by_cases hb5 : kindZ l t.fBase = 5
      · skip
        have Hv := Lib.hid (show shapedB l t = fieldsB l.length t.fFields from by
          by_cases hF : fieldsOk l.length t.fFields
          · rw [fieldsB_true hF, shapedB_true (.inr (.inl ⟨hk5, hl0, .inr hb5, hF⟩))]
          · rw [fieldsB_false hF, shapedB_false]
            rintro (⟨h, _⟩ | ⟨_, _, _, h⟩ | ⟨h, _⟩)
            · omega
            · exact hF h
            · omega)
        go_enter Tryz.func101, Tryz.ntmps101
        go_wp2_with (first | (go_at_call 119; refine (iKindAt _ _ l _ _ (R.out.below ((Below.refl _ _).alloc (Nat.le_refl _) _))).mono ?_; rintro e w' ⟨rfl, rfl⟩) | (go_at_call 105; refine (iTypeNumber _ _ _ _ _).mono ?_; rw [hd]; rintro e w' ⟨rfl, rfl⟩) | (go_at_call 120; refine (iAreFields _ _ _ _ _ t.fFields _ hs3 hs4 (F.out.below ((Below.refl _ _).alloc (Nat.le_refl _) _))).mono ?_; rintro e w' ⟨rfl, hbF⟩))
        go_ret
        exact ⟨by rw [Hv.out]; rfl, ((Below.refl w.heap.size w).alloc (Nat.le_refl _) _).trans (hbF.mono (by simp))⟩
      · skip
        have Hv := Lib.hid (show shapedB l t = false from shapedB_false (by
          rintro (⟨h, _⟩ | ⟨_, _, h3, _⟩ | ⟨h, _⟩)
          · omega
          · exact h3.elim hb1 hb5
          · omega))
        have hb6 : (kindZ l t.fBase == 5) = false := beq_eq_false_iff_ne.2 hb5
        go_enter Tryz.func101, Tryz.ntmps101
        go_wp2_with (first | (go_at_call 119; refine (iKindAt _ _ l _ _ (R.out.below ((Below.refl _ _).alloc (Nat.le_refl _) _))).mono ?_; rintro e w' ⟨rfl, rfl⟩) | (go_at_call 105; refine (iTypeNumber _ _ _ _ _).mono ?_; rw [hd]; rintro e w' ⟨rfl, rfl⟩) | (go_at_call 120; refine (iAreFields _ _ _ _ _ t.fFields _ hs3 hs4 (F.out.below ((Below.refl _ _).alloc (Nat.le_refl _) _))).mono ?_; rintro e w' ⟨rfl, hbF⟩))
        go_ret
        exact ⟨by rw [Hv.out]; rfl, (Below.refl w.heap.size w).alloc (Nat.le_refl _) _⟩
    · have hl1 : (t.fLong == 0) = false := beq_eq_false_iff_ne.2 hl0
      have Hv := Lib.hid (show shapedB l t = false from shapedB_false (by
        rintro (⟨h, _⟩ | ⟨_, h2, _⟩ | ⟨h, _⟩)
        · omega
        · exact hl0 h2
        · omega))
      go_enter Tryz.func101, Tryz.ntmps101
      go_wp2_with (first | (go_at_call 119; refine (iKindAt _ _ l _ _ (R.out.below ((Below.refl _ _).alloc (Nat.le_refl _) _))).mono ?_; rintro e w' ⟨rfl, rfl⟩) | (go_at_call 105; refine (iTypeNumber _ _ _ _ _).mono ?_; rw [hd]; rintro e w' ⟨rfl, rfl⟩) | (go_at_call 120; refine (iAreFields _ _ _ _ _ t.fFields _ hs3 hs4 (F.out.below ((Below.refl _ _).alloc (Nat.le_refl _) _))).mono ?_; rintro e w' ⟨rfl, hbF⟩))
      go_ret
      exact ⟨by rw [Hv.out]; rfl, (Below.refl w.heap.size w).alloc (Nat.le_refl _) _⟩
  by_cases hk4 : t.fKind = 4
  · by_cases hL1 : 1 ≤ t.fLong
    · have hL11 : decide (1 ≤ t.fLong) = true := decide_eq_true hL1
      by_cases hL2 : t.fLong ≤ 1000
      · have hL21 : decide (t.fLong ≤ 1000) = true := decide_eq_true hL2
        by_cases hB : 0 ≤ t.fBase ∧ t.fBase < (l.length : Int)
        · have hd := decide_eq_true hB
          by_cases hz : t.fFields.length = 0
          · skip
            have Hv := Lib.hid (shapedB_true (l := l) (t := t) (.inl ⟨hk4, ⟨hL1, hL2⟩, hB, hz⟩))
            clear hB
            go_enter Tryz.func101, Tryz.ntmps101
            go_wp2_with (first | (go_at_call 119; refine (iKindAt _ _ l _ _ (R.out.below ((Below.refl _ _).alloc (Nat.le_refl _) _))).mono ?_; rintro e w' ⟨rfl, rfl⟩) | (go_at_call 105; refine (iTypeNumber _ _ _ _ _).mono ?_; rw [hd]; rintro e w' ⟨rfl, rfl⟩) | (go_at_call 120; refine (iAreFields _ _ _ _ _ t.fFields _ hs3 hs4 (F.out.below ((Below.refl _ _).alloc (Nat.le_refl _) _))).mono ?_; rintro e w' ⟨rfl, hbF⟩))
            go_ret
            exact ⟨by rw [Hv.out]; rfl, (Below.refl w.heap.size w).alloc (Nat.le_refl _) _⟩
          · skip
            have Hv := Lib.hid (show shapedB l t = false from shapedB_false (by
              rintro (⟨_, _, _, h4⟩ | ⟨h, _⟩ | ⟨h, _⟩)
              · exact hz h4
              · omega
              · omega))
            clear hB
            have hz1 : ((t.fFields.length : Int) == 0) = false := beq_eq_false_iff_ne.2 (by omega)
            go_enter Tryz.func101, Tryz.ntmps101
            go_wp2_with (first | (go_at_call 119; refine (iKindAt _ _ l _ _ (R.out.below ((Below.refl _ _).alloc (Nat.le_refl _) _))).mono ?_; rintro e w' ⟨rfl, rfl⟩) | (go_at_call 105; refine (iTypeNumber _ _ _ _ _).mono ?_; rw [hd]; rintro e w' ⟨rfl, rfl⟩) | (go_at_call 120; refine (iAreFields _ _ _ _ _ t.fFields _ hs3 hs4 (F.out.below ((Below.refl _ _).alloc (Nat.le_refl _) _))).mono ?_; rintro e w' ⟨rfl, hbF⟩))
            go_ret
            exact ⟨by rw [Hv.out]; rfl, (Below.refl w.heap.size w).alloc (Nat.le_refl _) _⟩
        · have hd := decide_eq_false hB
          have Hv := Lib.hid (show shapedB l t = false from shapedB_false (by
            rintro (⟨_, _, h3, _⟩ | ⟨h, _⟩ | ⟨h, _⟩)
            · exact hB h3
            · omega
            · omega))
          clear hB
          go_enter Tryz.func101, Tryz.ntmps101
          go_wp2_with (first | (go_at_call 119; refine (iKindAt _ _ l _ _ (R.out.below ((Below.refl _ _).alloc (Nat.le_refl _) _))).mono ?_; rintro e w' ⟨rfl, rfl⟩) | (go_at_call 105; refine (iTypeNumber _ _ _ _ _).mono ?_; rw [hd]; rintro e w' ⟨rfl, rfl⟩) | (go_at_call 120; refine (iAreFields _ _ _ _ _ t.fFields _ hs3 hs4 (F.out.below ((Below.refl _ _).alloc (Nat.le_refl _) _))).mono ?_; rintro e w' ⟨rfl, hbF⟩))
          go_ret
          exact ⟨by rw [Hv.out]; rfl, (Below.refl w.heap.size w).alloc (Nat.le_refl _) _⟩
      · have hL21 : decide (t.fLong ≤ 1000) = false := decide_eq_false hL2
        have Hv := Lib.hid (show shapedB l t = false from shapedB_false (by
          rintro (⟨_, h2, _⟩ | ⟨h, _⟩ | ⟨h, _⟩)
          · exact hL2 h2.2
          · omega
          · omega))
        go_enter Tryz.func101, Tryz.ntmps101
        go_wp2_with (first | (go_at_call 119; refine (iKindAt _ _ l _ _ (R.out.below ((Below.refl _ _).alloc (Nat.le_refl _) _))).mono ?_; rintro e w' ⟨rfl, rfl⟩) | (go_at_call 105; refine (iTypeNumber _ _ _ _ _).mono ?_; rw [hd]; rintro e w' ⟨rfl, rfl⟩) | (go_at_call 120; refine (iAreFields _ _ _ _ _ t.fFields _ hs3 hs4 (F.out.below ((Below.refl _ _).alloc (Nat.le_refl _) _))).mono ?_; rintro e w' ⟨rfl, hbF⟩))
        go_ret
        exact ⟨by rw [Hv.out]; rfl, (Below.refl w.heap.size w).alloc (Nat.le_refl _) _⟩
    · have hL11 : decide (1 ≤ t.fLong) = false := decide_eq_false hL1
      have Hv := Lib.hid (show shapedB l t = false from shapedB_false (by
        rintro (⟨_, h2, _⟩ | ⟨h, _⟩ | ⟨h, _⟩)
        · exact hL1 h2.1
        · omega
        · omega))
      go_enter Tryz.func101, Tryz.ntmps101
      go_wp2_with (first | (go_at_call 119; refine (iKindAt _ _ l _ _ (R.out.below ((Below.refl _ _).alloc (Nat.le_refl _) _))).mono ?_; rintro e w' ⟨rfl, rfl⟩) | (go_at_call 105; refine (iTypeNumber _ _ _ _ _).mono ?_; rw [hd]; rintro e w' ⟨rfl, rfl⟩) | (go_at_call 120; refine (iAreFields _ _ _ _ _ t.fFields _ hs3 hs4 (F.out.below ((Below.refl _ _).alloc (Nat.le_refl _) _))).mono ?_; rintro e w' ⟨rfl, hbF⟩))
      go_ret
      exact ⟨by rw [Hv.out]; rfl, (Below.refl w.heap.size w).alloc (Nat.le_refl _) _⟩
  by_cases hk6 : t.fKind = 6
  · by_cases hl0 : t.fLong = 0
    · by_cases hz : t.fFields.length = 0
      · by_cases hb5 : kindZ l t.fBase = 5
        · skip
          have Hv := Lib.hid (shapedB_true (l := l) (t := t) (.inr (.inr ⟨hk6, hl0, .inl hb5, hz⟩)))
          go_enter Tryz.func101, Tryz.ntmps101
          go_wp2_with (first | (go_at_call 119; refine (iKindAt _ _ l _ _ (R.out.below ((Below.refl _ _).alloc (Nat.le_refl _) _))).mono ?_; rintro e w' ⟨rfl, rfl⟩) | (go_at_call 105; refine (iTypeNumber _ _ _ _ _).mono ?_; rw [hd]; rintro e w' ⟨rfl, rfl⟩) | (go_at_call 120; refine (iAreFields _ _ _ _ _ t.fFields _ hs3 hs4 (F.out.below ((Below.refl _ _).alloc (Nat.le_refl _) _))).mono ?_; rintro e w' ⟨rfl, hbF⟩))
          go_ret
          exact ⟨by rw [Hv.out]; rfl, (Below.refl w.heap.size w).alloc (Nat.le_refl _) _⟩
        have hb51 : (kindZ l t.fBase == 5) = false := beq_eq_false_iff_ne.2 hb5
        by_cases hb4 : kindZ l t.fBase = 4
        · skip
          have Hv := Lib.hid (shapedB_true (l := l) (t := t) (.inr (.inr ⟨hk6, hl0, .inr hb4, hz⟩)))
          go_enter Tryz.func101, Tryz.ntmps101
          go_wp2_with (first | (go_at_call 119; refine (iKindAt _ _ l _ _ (R.out.below ((Below.refl _ _).alloc (Nat.le_refl _) _))).mono ?_; rintro e w' ⟨rfl, rfl⟩) | (go_at_call 105; refine (iTypeNumber _ _ _ _ _).mono ?_; rw [hd]; rintro e w' ⟨rfl, rfl⟩) | (go_at_call 120; refine (iAreFields _ _ _ _ _ t.fFields _ hs3 hs4 (F.out.below ((Below.refl _ _).alloc (Nat.le_refl _) _))).mono ?_; rintro e w' ⟨rfl, hbF⟩))
          go_ret
          exact ⟨by rw [Hv.out]; rfl, (Below.refl w.heap.size w).alloc (Nat.le_refl _) _⟩
        · have hb41 : (kindZ l t.fBase == 4) = false := beq_eq_false_iff_ne.2 hb4
          have Hv := Lib.hid (show shapedB l t = false from shapedB_false (by
            rintro (⟨h, _⟩ | ⟨h, _⟩ | ⟨_, _, h3, _⟩)
            · omega
            · omega
            · exact h3.elim hb5 hb4))
          go_enter Tryz.func101, Tryz.ntmps101
          go_wp2_with (first | (go_at_call 119; refine (iKindAt _ _ l _ _ (R.out.below ((Below.refl _ _).alloc (Nat.le_refl _) _))).mono ?_; rintro e w' ⟨rfl, rfl⟩) | (go_at_call 105; refine (iTypeNumber _ _ _ _ _).mono ?_; rw [hd]; rintro e w' ⟨rfl, rfl⟩) | (go_at_call 120; refine (iAreFields _ _ _ _ _ t.fFields _ hs3 hs4 (F.out.below ((Below.refl _ _).alloc (Nat.le_refl _) _))).mono ?_; rintro e w' ⟨rfl, hbF⟩))
          go_ret
          exact ⟨by rw [Hv.out]; rfl, (Below.refl w.heap.size w).alloc (Nat.le_refl _) _⟩
      · have hz1 : ((t.fFields.length : Int) == 0) = false := beq_eq_false_iff_ne.2 (by omega)
        by_cases hb5 : kindZ l t.fBase = 5
        · skip
          have Hv := Lib.hid (show shapedB l t = false from shapedB_false (by
            rintro (⟨h, _⟩ | ⟨h, _⟩ | ⟨_, _, _, h4⟩)
            · omega
            · omega
            · exact hz h4))
          go_enter Tryz.func101, Tryz.ntmps101
          go_wp2_with (first | (go_at_call 119; refine (iKindAt _ _ l _ _ (R.out.below ((Below.refl _ _).alloc (Nat.le_refl _) _))).mono ?_; rintro e w' ⟨rfl, rfl⟩) | (go_at_call 105; refine (iTypeNumber _ _ _ _ _).mono ?_; rw [hd]; rintro e w' ⟨rfl, rfl⟩) | (go_at_call 120; refine (iAreFields _ _ _ _ _ t.fFields _ hs3 hs4 (F.out.below ((Below.refl _ _).alloc (Nat.le_refl _) _))).mono ?_; rintro e w' ⟨rfl, hbF⟩))
          go_ret
          exact ⟨by rw [Hv.out]; rfl, (Below.refl w.heap.size w).alloc (Nat.le_refl _) _⟩
        have hb51 : (kindZ l t.fBase == 5) = false := beq_eq_false_iff_ne.2 hb5
        by_cases hb4 : kindZ l t.fBase = 4
        · skip
          have Hv := Lib.hid (show shapedB l t = false from shapedB_false (by
            rintro (⟨h, _⟩ | ⟨h, _⟩ | ⟨_, _, _, h4⟩)
            · omega
            · omega
            · exact hz h4))
          go_enter Tryz.func101, Tryz.ntmps101
          go_wp2_with (first | (go_at_call 119; refine (iKindAt _ _ l _ _ (R.out.below ((Below.refl _ _).alloc (Nat.le_refl _) _))).mono ?_; rintro e w' ⟨rfl, rfl⟩) | (go_at_call 105; refine (iTypeNumber _ _ _ _ _).mono ?_; rw [hd]; rintro e w' ⟨rfl, rfl⟩) | (go_at_call 120; refine (iAreFields _ _ _ _ _ t.fFields _ hs3 hs4 (F.out.below ((Below.refl _ _).alloc (Nat.le_refl _) _))).mono ?_; rintro e w' ⟨rfl, hbF⟩))
          go_ret
          exact ⟨by rw [Hv.out]; rfl, (Below.refl w.heap.size w).alloc (Nat.le_refl _) _⟩
        · have hb41 : (kindZ l t.fBase == 4) = false := beq_eq_false_iff_ne.2 hb4
          have Hv := Lib.hid (show shapedB l t = false from shapedB_false (by
            rintro (⟨h, _⟩ | ⟨h, _⟩ | ⟨_, _, _, h4⟩)
            · omega
            · omega
            · exact hz h4))
          go_enter Tryz.func101, Tryz.ntmps101
          go_wp2_with (first | (go_at_call 119; refine (iKindAt _ _ l _ _ (R.out.below ((Below.refl _ _).alloc (Nat.le_refl _) _))).mono ?_; rintro e w' ⟨rfl, rfl⟩) | (go_at_call 105; refine (iTypeNumber _ _ _ _ _).mono ?_; rw [hd]; rintro e w' ⟨rfl, rfl⟩) | (go_at_call 120; refine (iAreFields _ _ _ _ _ t.fFields _ hs3 hs4 (F.out.below ((Below.refl _ _).alloc (Nat.le_refl _) _))).mono ?_; rintro e w' ⟨rfl, hbF⟩))
          go_ret
          exact ⟨by rw [Hv.out]; rfl, (Below.refl w.heap.size w).alloc (Nat.le_refl _) _⟩
    · have hl1 : (t.fLong == 0) = false := beq_eq_false_iff_ne.2 hl0
      have Hv := Lib.hid (show shapedB l t = false from shapedB_false (by
        rintro (⟨h, _⟩ | ⟨h, _⟩ | ⟨_, h2, _⟩)
        · omega
        · omega
        · exact hl0 h2))
      go_enter Tryz.func101, Tryz.ntmps101
      go_wp2_with (first | (go_at_call 119; refine (iKindAt _ _ l _ _ (R.out.below ((Below.refl _ _).alloc (Nat.le_refl _) _))).mono ?_; rintro e w' ⟨rfl, rfl⟩) | (go_at_call 105; refine (iTypeNumber _ _ _ _ _).mono ?_; rw [hd]; rintro e w' ⟨rfl, rfl⟩) | (go_at_call 120; refine (iAreFields _ _ _ _ _ t.fFields _ hs3 hs4 (F.out.below ((Below.refl _ _).alloc (Nat.le_refl _) _))).mono ?_; rintro e w' ⟨rfl, hbF⟩))
      go_ret
      exact ⟨by rw [Hv.out]; rfl, (Below.refl w.heap.size w).alloc (Nat.le_refl _) _⟩
  · skip
    have Hv := Lib.hid (show shapedB l t = false from shapedB_false (by
      rintro (⟨h, _⟩ | ⟨h, _⟩ | ⟨h, _⟩)
      · exact hk4 h
      · exact hk5 h
      · exact hk6 h))
    have hk41 : (t.fKind == 4) = false := beq_eq_false_iff_ne.2 hk4
    have hk51 : (t.fKind == 5) = false := beq_eq_false_iff_ne.2 hk5
    have hk61 : (t.fKind == 6) = false := beq_eq_false_iff_ne.2 hk6
    go_enter Tryz.func101, Tryz.ntmps101
    go_wp2_with (first | (go_at_call 119; refine (iKindAt _ _ l _ _ (R.out.below ((Below.refl _ _).alloc (Nat.le_refl _) _))).mono ?_; rintro e w' ⟨rfl, rfl⟩) | (go_at_call 105; refine (iTypeNumber _ _ _ _ _).mono ?_; rw [hd]; rintro e w' ⟨rfl, rfl⟩) | (go_at_call 120; refine (iAreFields _ _ _ _ _ t.fFields _ hs3 hs4 (F.out.below ((Below.refl _ _).alloc (Nat.le_refl _) _))).mono ?_; rintro e w' ⟨rfl, hbF⟩))
    go_ret
    exact ⟨by rw [Hv.out]; rfl, (Below.refl w.heap.size w).alloc (Nat.le_refl _) _⟩

end Go.Proofs.YtllddjmcemcdhaaGreat

namespace Go.Proofs.YtllddjmcemcdhaaGreat
open Go.ChangeShapes Go.WideShapes Go.ChangeAt Go.RowKit Go.WideMaps

theorem empty_of {s : ByteArray} (h : s.size = 0) : s = ⟨#[]⟩ := by
  obtain ⟨⟨l⟩⟩ := s
  have : l.length = 0 := h
  cases l with
  | nil => rfl
  | cons _ _ => simp at this

/-- What the program's table of full names tells behind k types. -/
def toldT (l : List TypeD) (k : Nat) (f : Lit → Bool) : Prop := ∀ o n : ByteArray, o.size ≤ maxLen → n.size ≤ maxLen → (f (fullK o n) = true ↔ ∃ i, ∃ h : i < l.length, 3 ≤ i ∧ i < k ∧ l[i].fName.size ≠ 0 ∧ l[i].fOwner = o ∧ l[i].fName = n)
theorem toldT_three {l : List TypeD} : toldT l 3 (fun _ => false) := fun _ _ _ _ => ⟨fun h => (by cases h), fun ⟨_, _, h, h', _⟩ => absurd h (by omega)⟩
theorem toldT_put {l : List TypeD} {k : Nat} {f : Lit → Bool} (hk : 3 + k < l.length) (h : toldT l (3 + k) f) (hm : ∀ t ∈ l, t.mod) (x : Bool) (hx : x = true ↔ l[3 + k].fName.size ≠ 0) :
    toldT l (3 + (k + 1)) (updB f (fullK l[3 + k].fOwner l[3 + k].fName) x) := fun o n ho hn => by
  obtain ⟨h1, h2, _⟩ := hm _ (List.getElem_mem hk)
  by_cases e : o = l[3 + k].fOwner ∧ n = l[3 + k].fName
  · obtain ⟨rfl, rfl⟩ := e
    rw [updB_same, hx]
    constructor
    · intro h0
      exact ⟨3 + k, hk, by omega, by omega, h0, rfl, rfl⟩
    · rintro ⟨i, hi, _, _, h0, _, h3⟩
      rw [← h3]
      exact h0
  · rw [updB_other _ _ (fun e2 => e (fullK_inj ho hn h1 h2 e2)), h o n ho hn]
    constructor
    · rintro ⟨i, hi, h3, h4, h5⟩
      exact ⟨i, hi, h3, by omega, h5⟩
    · rintro ⟨i, hi, h3, h4, h5, h6, h7⟩
      refine ⟨i, hi, h3, ?_, h5, h6, h7⟩
      by_cases e3 : i = 3 + k
      · subst e3; exact absurd ⟨h6.symm, h7.symm⟩ e
      · omega

set_option maxRecDepth 100000 in
set_option maxHeartbeats 8000000 in
theorem iAreShaped (a : Option Addr) (c : Nat) (l : List TypeD) (w : World) (hl : l.length ≤ 1048576) (hc : l.length ≤ c) (hc2 : c ≤ maxLen) (hm : ∀ t ∈ l, t.mod) (hr : Rows typeS Any w a l) :
    Calls Tryz.prog 75 #[.slice a l.length c] w fun e w' => e = .returned (.bool (nearB l)) ∧ Below w.heap.size w w' := by
  have Hr := Lib.hid hr
  have Hm := Lib.hid hm
  clear hr hm
  unfold maxLen at hc2
  go_enter Tryz.func75, Tryz.ntmps75
  go_wp2_with fail
  refine (iBaseTypes w).mono ?_
  rintro e w1 ⟨rfl, e1⟩
  have B1 := Lib.hid (show Below w.heap.size w w1 by rw [e1]; exact (Below.refl _ _).alloc (Nat.le_refl _) _)
  have X1 := Lib.hid (show Box w1 w.heap.size 110 baseA by rw [e1]; exact Box.new w _ _)
  have R1 := Lib.hid (Hr.out.below B1.out)
  clear e1 Hr
  by_cases h3 : l.length < 3
  · have Hv := Lib.hid (nearB_false (l := l) (fun h => by have := h.1.1; omega))
    have h31 : (l.length : Int) < 3 := by omega
    go_wp2_with fail
    go_ret
    exact ⟨by rw [Hv.out]; rfl, B1.out⟩
  have h31 : ¬ (l.length : Int) < 3 := by omega
  by_cases h24 : 24 < l.length
  · have Hv := Lib.hid (nearB_false (l := l) (fun h => by have := h.2.1; omega))
    have h241 : (24 : Int) < (l.length : Int) := by omega
    go_wp2_with fail
    go_ret
    exact ⟨by rw [Hv.out]; rfl, B1.out⟩
  have h241 : ¬ (24 : Int) < (l.length : Int) := by omega
  go_wp2_with fail
  go_loopw [23] (fun i wr => ∃ k : Nat, i = .int .i64 k ∧ k ≤ 3 ∧ baseTo l k ∧ Below w1.heap.size w1 wr) (fun i _ => 3 - (intOf i).toNat)
  case atStart => exact ⟨0, rfl, by omega, fun _ _ h => absurd h (by omega), Below.refl _ _⟩
  case round =>
    obtain ⟨k, rfl, hk, hto, hbel⟩ := hrel
    have Hto := Lib.hid hto
    clear hto
    by_cases hlt : k < 3
    · have hkl : k < l.length := by omega
      obtain ⟨b, o, cs, rfl, _, hb1, hc1, hat⟩ := R1.out k hkl
      obtain ⟨a3, c3, rfl, _, _⟩ := hat
      have e0 := (hbel.cell (p := ⟨b, o + k * 6 + 0, none⟩) hb1).trans (hc1 0 (by decide))
      have e1 := (hbel.cell (p := ⟨b, o + k * 6 + 1, none⟩) hb1).trans (hc1 1 (by decide))
      have e2 := (hbel.cell (p := ⟨b, o + k * 6 + 2, none⟩) hb1).trans (hc1 2 (by decide))
      have e3 := (hbel.cell (p := ⟨b, o + k * 6 + 3, none⟩) hb1).trans (hc1 3 (by decide))
      have e4 := (hbel.cell (p := ⟨b, o + k * 6 + 4, none⟩) hb1).trans (hc1 4 (by decide))
      have e5 := (hbel.cell (p := ⟨b, o + k * 6 + 5, none⟩) hb1).trans (hc1 5 (by decide))
      simp at e0 e1 e2 e3 e4 e5
      obtain ⟨x0, x1, x2, x3, x4, x5⟩ := baseA_at (X1.out.below hbel X1.out.lt) hlt
      have Hbel := Lib.hid hbel
      have Hbad := Lib.hid (base_bad hlt hkl)
      have Hnx := Lib.hid (baseTo_next hkl Hto.out)
      have l1 : b < wr.heap.size := Nat.lt_of_lt_of_le hb1 hbel.size
      have l2 : w.heap.size < wr.heap.size := Nat.lt_of_lt_of_le X1.out.lt hbel.size
      clear hbel hc1
      generalize l[k] = t at *
      generalize hbn : baseN k = bn at *
      have key : baseLike k t ↔ (t.fKind = (k : Int) + 1 ∧ t.fLong = 0 ∧ t.fBase = -1 ∧ t.fFields.length = 0 ∧ t.fOwner.size = 0 ∧ t.fName = bn) := by unfold baseLike; rw [hbn]
      have Key := Lib.hid key
      clear key hbn
      go_wp2_with fail
      have hB := Box.new wr 110 #[.int .i64 ((k : Int) + 1), .int .i64 0, .int .i64 (-1), .slice none 0 0, .string ⟨#[]⟩, .string bn]
      have y0 : (wr.alloc (.cells #[.int .i64 ((k : Int) + 1), .int .i64 0, .int .i64 (-1), .slice none 0 0, .string ⟨#[]⟩, .string bn] 110)).cell? ⟨wr.heap.size, 0, none⟩ = some (.int .i64 ((k : Int) + 1)) := (hB.cell 0).trans rfl
      have y1 : (wr.alloc (.cells #[.int .i64 ((k : Int) + 1), .int .i64 0, .int .i64 (-1), .slice none 0 0, .string ⟨#[]⟩, .string bn] 110)).cell? ⟨wr.heap.size, 1, none⟩ = some (.int .i64 0) := (hB.cell 1).trans rfl
      have y2 : (wr.alloc (.cells #[.int .i64 ((k : Int) + 1), .int .i64 0, .int .i64 (-1), .slice none 0 0, .string ⟨#[]⟩, .string bn] 110)).cell? ⟨wr.heap.size, 2, none⟩ = some (.int .i64 (-1)) := (hB.cell 2).trans rfl
      have y3 : (wr.alloc (.cells #[.int .i64 ((k : Int) + 1), .int .i64 0, .int .i64 (-1), .slice none 0 0, .string ⟨#[]⟩, .string bn] 110)).cell? ⟨wr.heap.size, 3, none⟩ = some (.slice none 0 0) := (hB.cell 3).trans rfl
      have y4 : (wr.alloc (.cells #[.int .i64 ((k : Int) + 1), .int .i64 0, .int .i64 (-1), .slice none 0 0, .string ⟨#[]⟩, .string bn] 110)).cell? ⟨wr.heap.size, 4, none⟩ = some (.string ⟨#[]⟩) := (hB.cell 4).trans rfl
      have y5 : (wr.alloc (.cells #[.int .i64 ((k : Int) + 1), .int .i64 0, .int .i64 (-1), .slice none 0 0, .string ⟨#[]⟩, .string bn] 110)).cell? ⟨wr.heap.size, 5, none⟩ = some (.string bn) := (hB.cell 5).trans rfl
      have BW := Lib.hid (Hbel.out.alloc Hbel.out.size (.cells #[.int .i64 ((k : Int) + 1), .int .i64 0, .int .i64 (-1), .slice none 0 0, .string ⟨#[]⟩, .string bn] 110))
      have l3 : b < (wr.alloc (.cells #[.int .i64 ((k : Int) + 1), .int .i64 0, .int .i64 (-1), .slice none 0 0, .string ⟨#[]⟩, .string bn] 110)).heap.size := by simp; omega
      have l4 := hB.lt
      have z0 : (wr.alloc (.cells #[.int .i64 ((k : Int) + 1), .int .i64 0, .int .i64 (-1), .slice none 0 0, .string ⟨#[]⟩, .string bn] 110)).cell? ⟨b, o + k * 6, none⟩ = some (.int .i64 t.fKind) := by rw [World.cell?_alloc_lt _ _ _ l1]; exact e0
      have z1 : (wr.alloc (.cells #[.int .i64 ((k : Int) + 1), .int .i64 0, .int .i64 (-1), .slice none 0 0, .string ⟨#[]⟩, .string bn] 110)).cell? ⟨b, o + k * 6 + 1, none⟩ = some (.int .i64 t.fLong) := by rw [World.cell?_alloc_lt _ _ _ l1]; exact e1
      have z2 : (wr.alloc (.cells #[.int .i64 ((k : Int) + 1), .int .i64 0, .int .i64 (-1), .slice none 0 0, .string ⟨#[]⟩, .string bn] 110)).cell? ⟨b, o + k * 6 + 2, none⟩ = some (.int .i64 t.fBase) := by rw [World.cell?_alloc_lt _ _ _ l1]; exact e2
      have z3 : (wr.alloc (.cells #[.int .i64 ((k : Int) + 1), .int .i64 0, .int .i64 (-1), .slice none 0 0, .string ⟨#[]⟩, .string bn] 110)).cell? ⟨b, o + k * 6 + 3, none⟩ = some (.slice a3 t.fFields.length c3) := by rw [World.cell?_alloc_lt _ _ _ l1]; exact e3
      have z4 : (wr.alloc (.cells #[.int .i64 ((k : Int) + 1), .int .i64 0, .int .i64 (-1), .slice none 0 0, .string ⟨#[]⟩, .string bn] 110)).cell? ⟨b, o + k * 6 + 4, none⟩ = some (.string t.fOwner) := by rw [World.cell?_alloc_lt _ _ _ l1]; exact e4
      have z5 : (wr.alloc (.cells #[.int .i64 ((k : Int) + 1), .int .i64 0, .int .i64 (-1), .slice none 0 0, .string ⟨#[]⟩, .string bn] 110)).cell? ⟨b, o + k * 6 + 5, none⟩ = some (.string t.fName) := by rw [World.cell?_alloc_lt _ _ _ l1]; exact e5
      clear e0 e1 e2 e3 e4 e5 x0 x1 x2 x3 x4 x5 hB
      generalize wr.alloc (.cells #[.int .i64 ((k : Int) + 1), .int .i64 0, .int .i64 (-1), .slice none 0 0, .string ⟨#[]⟩, .string bn] 110) = wq at *
      generalize wr.heap.size = gq at *
      have Nb := Lib.hid (fun (hn : ¬ baseLike k t) => nearB_false (l := l) (fun h => by have h5 := Hbad.out hn; rw [baseB_true h.1] at h5; cases h5))
      by_cases p4 : t.fOwner.size = 0
      · have q4 := isEmpty_of p4
        have q41 := bytes_same t.fOwner ⟨#[]⟩ true ⟨fun _ => empty_of p4, fun _ => rfl⟩
        by_cases p5 : t.fName = bn
        · have q5 := bytes_same t.fName bn true (by simp [p5])
          have P5 := Lib.hid p5
          clear p5
          by_cases p0 : t.fKind = (k : Int) + 1
          · have d0 : (t.fKind == (k : Int) + 1) = true := beq_iff_eq.2 p0
            have P0 := Lib.hid p0
            clear p0
            by_cases p1 : t.fLong = 0
            · have d1 : (t.fLong == 0) = true := beq_iff_eq.2 p1
              have P1 := Lib.hid p1
              clear p1
              by_cases p3 : t.fFields.length = 0
              · have d3 : ((t.fFields.length : Int) == 0) = true := beq_iff_eq.2 (by omega)
                have P3 := Lib.hid p3
                clear p3
                by_cases p2 : t.fBase = -1
                · have p21 : (t.fBase != -1) = false := by simp [p2]
                  have Hn := Lib.hid (Hnx.out (Key.out.2 ⟨P0.out, P1.out, p2, P3.out, p4, P5.out⟩))
                  clear p2
                  go_region_held3 (fun w' => w'.cell? ⟨b, o + k * 6, none⟩ = some (.int .i64 t.fKind) ∧ w'.cell? ⟨b, o + k * 6 + 1, none⟩ = some (.int .i64 t.fLong) ∧ w'.cell? ⟨b, o + k * 6 + 2, none⟩ = some (.int .i64 t.fBase) ∧ w'.cell? ⟨b, o + k * 6 + 3, none⟩ = some (.slice a3 t.fFields.length c3) ∧ w'.cell? ⟨b, o + k * 6 + 4, none⟩ = some (.string t.fOwner) ∧ w'.cell? ⟨b, o + k * 6 + 5, none⟩ = some (.string t.fName) ∧ w'.cell? ⟨gq, 0, none⟩ = some (.int .i64 ((k : Int) + 1)) ∧ w'.cell? ⟨gq, 1, none⟩ = some (.int .i64 0) ∧ w'.cell? ⟨gq, 2, none⟩ = some (.int .i64 (-1)) ∧ w'.cell? ⟨gq, 3, none⟩ = some (.slice none 0 0) ∧ w'.cell? ⟨gq, 4, none⟩ = some (.string ⟨#[]⟩) ∧ w'.cell? ⟨gq, 5, none⟩ = some (.string bn))
                    (first
                      | go_keep
                      | (go_split_ands
                         refine ⟨?_, ?_, ?_, ?_, ?_, ?_, ?_, ?_, ?_, ?_, ?_, ?_⟩ <;> (rw [hbh.cell (by simp at *; omega)]; assumption)))
                    (first
                      | (go_at_call 99; refine (iHeadOf _ _ _ _ _ _ _ _ _).mono ?_; rintro e wh ⟨rfl, hbh⟩; have hsz := hbh.size))
                  have hA := ‹Below wq.drew.heap.size wq.drew _›
                  have hw1 := (belowN BW.out 1).trans (hA.mono BW.out.size)
                  have Hw2 := Lib.hid (hw1.trans (hbh.mono hw1.size))
                  clear hA hw1 hbh
                  go_wp2_with fail
                  exact ⟨⟨k + 1, by congr 1, by omega, Hn.out, Hw2.out⟩, by simp [intOf]; omega⟩
                · skip
                  have p21 : (t.fBase != -1) = true := bne_iff_ne.2 p2
                  have Hv := Lib.hid (Nb.out (fun h => p2 (Key.out.1 h).2.2.1))
                  go_region_held3 (fun w' => w'.cell? ⟨b, o + k * 6, none⟩ = some (.int .i64 t.fKind) ∧ w'.cell? ⟨b, o + k * 6 + 1, none⟩ = some (.int .i64 t.fLong) ∧ w'.cell? ⟨b, o + k * 6 + 2, none⟩ = some (.int .i64 t.fBase) ∧ w'.cell? ⟨b, o + k * 6 + 3, none⟩ = some (.slice a3 t.fFields.length c3) ∧ w'.cell? ⟨b, o + k * 6 + 4, none⟩ = some (.string t.fOwner) ∧ w'.cell? ⟨b, o + k * 6 + 5, none⟩ = some (.string t.fName) ∧ w'.cell? ⟨gq, 0, none⟩ = some (.int .i64 ((k : Int) + 1)) ∧ w'.cell? ⟨gq, 1, none⟩ = some (.int .i64 0) ∧ w'.cell? ⟨gq, 2, none⟩ = some (.int .i64 (-1)) ∧ w'.cell? ⟨gq, 3, none⟩ = some (.slice none 0 0) ∧ w'.cell? ⟨gq, 4, none⟩ = some (.string ⟨#[]⟩) ∧ w'.cell? ⟨gq, 5, none⟩ = some (.string bn))
                    (first
                      | go_keep
                      | (go_split_ands
                         refine ⟨?_, ?_, ?_, ?_, ?_, ?_, ?_, ?_, ?_, ?_, ?_, ?_⟩ <;> (rw [hbh.cell (by simp at *; omega)]; assumption)))
                    (first
                      | (go_at_call 99; refine (iHeadOf _ _ _ _ _ _ _ _ _).mono ?_; rintro e wh ⟨rfl, hbh⟩; have hsz := hbh.size))
                  have hA := ‹Below wq.drew.heap.size wq.drew _›
                  have hw1 := (belowN BW.out 1).trans (hA.mono BW.out.size)
                  have Hw2 := Lib.hid (hw1.trans (hbh.mono hw1.size))
                  clear hA hw1 hbh
                  go_wp2_with fail
                  go_ret
                  exact ⟨by rw [Hv.out]; rfl, B1.out.trans (Hw2.out.mono B1.out.size)⟩
              · skip
                have p31 : ¬ (t.fFields.length : Int) = 0 := by omega
                have p32 : ((t.fFields.length : Int) == 0) = false := beq_eq_false_iff_ne.2 p31
                have Hv := Lib.hid (Nb.out (fun h => p3 (Key.out.1 h).2.2.2.1))
                go_region_held3 (fun w' => w'.cell? ⟨b, o + k * 6, none⟩ = some (.int .i64 t.fKind) ∧ w'.cell? ⟨b, o + k * 6 + 1, none⟩ = some (.int .i64 t.fLong) ∧ w'.cell? ⟨b, o + k * 6 + 2, none⟩ = some (.int .i64 t.fBase) ∧ w'.cell? ⟨b, o + k * 6 + 3, none⟩ = some (.slice a3 t.fFields.length c3) ∧ w'.cell? ⟨b, o + k * 6 + 4, none⟩ = some (.string t.fOwner) ∧ w'.cell? ⟨b, o + k * 6 + 5, none⟩ = some (.string t.fName) ∧ w'.cell? ⟨gq, 0, none⟩ = some (.int .i64 ((k : Int) + 1)) ∧ w'.cell? ⟨gq, 1, none⟩ = some (.int .i64 0) ∧ w'.cell? ⟨gq, 2, none⟩ = some (.int .i64 (-1)) ∧ w'.cell? ⟨gq, 3, none⟩ = some (.slice none 0 0) ∧ w'.cell? ⟨gq, 4, none⟩ = some (.string ⟨#[]⟩) ∧ w'.cell? ⟨gq, 5, none⟩ = some (.string bn))
                  (first
                    | go_keep
                    | (go_split_ands
                       refine ⟨?_, ?_, ?_, ?_, ?_, ?_, ?_, ?_, ?_, ?_, ?_, ?_⟩ <;> (rw [hbh.cell (by simp at *; omega)]; assumption)))
                  (first
                    | (go_at_call 99; refine (iHeadOf _ _ _ _ _ _ _ _ _).mono ?_; rintro e wh ⟨rfl, hbh⟩; have hsz := hbh.size))
                have hA := ‹Below wq.drew.heap.size wq.drew _›
                have hw1 := (belowN BW.out 1).trans (hA.mono BW.out.size)
                have Hw2 := Lib.hid (hw1.trans (hbh.mono hw1.size))
                clear hA hw1 hbh
                go_wp2_with fail
                go_ret
                exact ⟨by rw [Hv.out]; rfl, B1.out.trans (Hw2.out.mono B1.out.size)⟩
            · skip
              have p11 : (t.fLong == 0) = false := beq_eq_false_iff_ne.2 p1
              have Hv := Lib.hid (Nb.out (fun h => p1 (Key.out.1 h).2.1))
              go_region_held3 (fun w' => w'.cell? ⟨b, o + k * 6, none⟩ = some (.int .i64 t.fKind) ∧ w'.cell? ⟨b, o + k * 6 + 1, none⟩ = some (.int .i64 t.fLong) ∧ w'.cell? ⟨b, o + k * 6 + 2, none⟩ = some (.int .i64 t.fBase) ∧ w'.cell? ⟨b, o + k * 6 + 3, none⟩ = some (.slice a3 t.fFields.length c3) ∧ w'.cell? ⟨b, o + k * 6 + 4, none⟩ = some (.string t.fOwner) ∧ w'.cell? ⟨b, o + k * 6 + 5, none⟩ = some (.string t.fName) ∧ w'.cell? ⟨gq, 0, none⟩ = some (.int .i64 ((k : Int) + 1)) ∧ w'.cell? ⟨gq, 1, none⟩ = some (.int .i64 0) ∧ w'.cell? ⟨gq, 2, none⟩ = some (.int .i64 (-1)) ∧ w'.cell? ⟨gq, 3, none⟩ = some (.slice none 0 0) ∧ w'.cell? ⟨gq, 4, none⟩ = some (.string ⟨#[]⟩) ∧ w'.cell? ⟨gq, 5, none⟩ = some (.string bn))
                (first
                  | go_keep
                  | (go_split_ands
                     refine ⟨?_, ?_, ?_, ?_, ?_, ?_, ?_, ?_, ?_, ?_, ?_, ?_⟩ <;> (rw [hbh.cell (by simp at *; omega)]; assumption)))
                (first
                  | (go_at_call 99; refine (iHeadOf _ _ _ _ _ _ _ _ _).mono ?_; rintro e wh ⟨rfl, hbh⟩; have hsz := hbh.size))
              have hA := ‹Below wq.drew.heap.size wq.drew _›
              have hw1 := (belowN BW.out 1).trans (hA.mono BW.out.size)
              have Hw2 := Lib.hid (hw1.trans (hbh.mono hw1.size))
              clear hA hw1 hbh
              go_wp2_with fail
              go_ret
              exact ⟨by rw [Hv.out]; rfl, B1.out.trans (Hw2.out.mono B1.out.size)⟩
          · skip
            have p01 : (t.fKind == (k : Int) + 1) = false := beq_eq_false_iff_ne.2 p0
            have Hv := Lib.hid (Nb.out (fun h => p0 (Key.out.1 h).1))
            go_region_held3 (fun w' => w'.cell? ⟨b, o + k * 6, none⟩ = some (.int .i64 t.fKind) ∧ w'.cell? ⟨b, o + k * 6 + 1, none⟩ = some (.int .i64 t.fLong) ∧ w'.cell? ⟨b, o + k * 6 + 2, none⟩ = some (.int .i64 t.fBase) ∧ w'.cell? ⟨b, o + k * 6 + 3, none⟩ = some (.slice a3 t.fFields.length c3) ∧ w'.cell? ⟨b, o + k * 6 + 4, none⟩ = some (.string t.fOwner) ∧ w'.cell? ⟨b, o + k * 6 + 5, none⟩ = some (.string t.fName) ∧ w'.cell? ⟨gq, 0, none⟩ = some (.int .i64 ((k : Int) + 1)) ∧ w'.cell? ⟨gq, 1, none⟩ = some (.int .i64 0) ∧ w'.cell? ⟨gq, 2, none⟩ = some (.int .i64 (-1)) ∧ w'.cell? ⟨gq, 3, none⟩ = some (.slice none 0 0) ∧ w'.cell? ⟨gq, 4, none⟩ = some (.string ⟨#[]⟩) ∧ w'.cell? ⟨gq, 5, none⟩ = some (.string bn))
              (first
                | go_keep
                | (go_split_ands
                   refine ⟨?_, ?_, ?_, ?_, ?_, ?_, ?_, ?_, ?_, ?_, ?_, ?_⟩ <;> (rw [hbh.cell (by simp at *; omega)]; assumption)))
              (first
                | (go_at_call 99; refine (iHeadOf _ _ _ _ _ _ _ _ _).mono ?_; rintro e wh ⟨rfl, hbh⟩; have hsz := hbh.size))
            have hA := ‹Below wq.drew.heap.size wq.drew _›
            have hw1 := (belowN BW.out 1).trans (hA.mono BW.out.size)
            have Hw2 := Lib.hid (hw1.trans (hbh.mono hw1.size))
            clear hA hw1 hbh
            go_wp2_with fail
            go_ret
            exact ⟨by rw [Hv.out]; rfl, B1.out.trans (Hw2.out.mono B1.out.size)⟩
        · have q5 := bytes_same t.fName bn false (by simp [p5])
          have Hv := Lib.hid (Nb.out (fun h => p5 (Key.out.1 h).2.2.2.2.2))
          go_region_held3 (fun w' => w'.cell? ⟨b, o + k * 6, none⟩ = some (.int .i64 t.fKind) ∧ w'.cell? ⟨b, o + k * 6 + 1, none⟩ = some (.int .i64 t.fLong) ∧ w'.cell? ⟨b, o + k * 6 + 2, none⟩ = some (.int .i64 t.fBase) ∧ w'.cell? ⟨b, o + k * 6 + 3, none⟩ = some (.slice a3 t.fFields.length c3) ∧ w'.cell? ⟨b, o + k * 6 + 4, none⟩ = some (.string t.fOwner) ∧ w'.cell? ⟨b, o + k * 6 + 5, none⟩ = some (.string t.fName) ∧ w'.cell? ⟨gq, 0, none⟩ = some (.int .i64 ((k : Int) + 1)) ∧ w'.cell? ⟨gq, 1, none⟩ = some (.int .i64 0) ∧ w'.cell? ⟨gq, 2, none⟩ = some (.int .i64 (-1)) ∧ w'.cell? ⟨gq, 3, none⟩ = some (.slice none 0 0) ∧ w'.cell? ⟨gq, 4, none⟩ = some (.string ⟨#[]⟩) ∧ w'.cell? ⟨gq, 5, none⟩ = some (.string bn))
            (first
              | go_keep
              | (go_split_ands
                 refine ⟨?_, ?_, ?_, ?_, ?_, ?_, ?_, ?_, ?_, ?_, ?_, ?_⟩ <;> (rw [hbh.cell (by simp at *; omega)]; assumption)))
            (first
              | (go_at_call 99; refine (iHeadOf _ _ _ _ _ _ _ _ _).mono ?_; rintro e wh ⟨rfl, hbh⟩; have hsz := hbh.size))
          have hA := ‹Below wq.drew.heap.size wq.drew _›
          have hw1 := (belowN BW.out 1).trans (hA.mono BW.out.size)
          have Hw2 := Lib.hid (hw1.trans (hbh.mono hw1.size))
          clear hA hw1 hbh
          go_wp2_with fail
          go_ret
          exact ⟨by rw [Hv.out]; rfl, B1.out.trans (Hw2.out.mono B1.out.size)⟩
      · have q4 := isEmpty_not p4
        have q41 := bytes_same t.fOwner ⟨#[]⟩ false ⟨fun h => (by cases h), fun h => absurd (by rw [h]; rfl) p4⟩
        have Hv := Lib.hid (Nb.out (fun h => p4 (Key.out.1 h).2.2.2.2.1))
        go_region_held3 (fun w' => w'.cell? ⟨b, o + k * 6, none⟩ = some (.int .i64 t.fKind) ∧ w'.cell? ⟨b, o + k * 6 + 1, none⟩ = some (.int .i64 t.fLong) ∧ w'.cell? ⟨b, o + k * 6 + 2, none⟩ = some (.int .i64 t.fBase) ∧ w'.cell? ⟨b, o + k * 6 + 3, none⟩ = some (.slice a3 t.fFields.length c3) ∧ w'.cell? ⟨b, o + k * 6 + 4, none⟩ = some (.string t.fOwner) ∧ w'.cell? ⟨b, o + k * 6 + 5, none⟩ = some (.string t.fName) ∧ w'.cell? ⟨gq, 0, none⟩ = some (.int .i64 ((k : Int) + 1)) ∧ w'.cell? ⟨gq, 1, none⟩ = some (.int .i64 0) ∧ w'.cell? ⟨gq, 2, none⟩ = some (.int .i64 (-1)) ∧ w'.cell? ⟨gq, 3, none⟩ = some (.slice none 0 0) ∧ w'.cell? ⟨gq, 4, none⟩ = some (.string ⟨#[]⟩) ∧ w'.cell? ⟨gq, 5, none⟩ = some (.string bn))
          (first
            | go_keep
            | (go_split_ands
               refine ⟨?_, ?_, ?_, ?_, ?_, ?_, ?_, ?_, ?_, ?_, ?_, ?_⟩ <;> (rw [hbh.cell (by simp at *; omega)]; assumption)))
          (first
            | (go_at_call 99; refine (iHeadOf _ _ _ _ _ _ _ _ _).mono ?_; rintro e wh ⟨rfl, hbh⟩; have hsz := hbh.size))
        have hA := ‹Below wq.drew.heap.size wq.drew _›
        have hw1 := (belowN BW.out 1).trans (hA.mono BW.out.size)
        have Hw2 := Lib.hid (hw1.trans (hbh.mono hw1.size))
        clear hA hw1 hbh
        go_wp2_with fail
        go_ret
        exact ⟨by rw [Hv.out]; rfl, B1.out.trans (Hw2.out.mono B1.out.size)⟩
    · obtain rfl : k = 3 := by omega
      have Hbo := Lib.hid (show baseOk l from ⟨by omega, Hto.out⟩)
      have Hbel0 := Lib.hid hbel
      clear hbel
      obtain ⟨wo, hwo⟩ : ∃ x, x = wr := ⟨_, rfl⟩
      subst hwo
      have R0 := Lib.hid (R1.out.below Hbel0.out)
      have BB := Lib.hid (B1.out.trans (Hbel0.out.mono B1.out.size))
      obtain ⟨b, o, cs0, rfl, _, hb1, _, _⟩ := R0.out 0 (by omega)
      have hmm := @run_makeMap Tryz.prog
      by_cases hc3 : c = 3
      · have hl3 : l.length = 3 := by omega
        have Hv := Lib.hid (nearB_true ⟨Hbo.out, by omega, by rw [hl3]; exact nearTo_three⟩)
        go_wp2_with fail
        go_loopw [43] (fun i wr => i = .int .i64 0 ∧ Below wo.heap.size wo wr) (fun _ _ => 0)
        case atStart => exact ⟨rfl, (Below.refl _ _).alloc (Nat.le_refl _) _⟩
        case round =>
          obtain ⟨rfl, hbel⟩ := hrel
          have BB2 := Lib.hid (BB.out.trans (hbel.mono BB.out.size))
          clear hbel
          go_wp2_with fail
          go_ret
          exact ⟨by rw [Hv.out]; rfl, BB2.out⟩
      · go_wp2_with fail
        go_loopw [43] (fun i wr => ∃ (k : Nat) (f : Lit → Bool), i = .int .i64 k ∧ k ≤ l.length - 3 ∧ nearTo l (3 + k) ∧ BMap 158 wr wo.heap.size k f ∧ toldT l (3 + k) f ∧ Below wo.heap.size wo wr) (fun i _ => l.length - 3 - (intOf i).toNat)
        case atStart => exact ⟨0, _, rfl, by omega, nearTo_three, BMap.made wo, toldT_three, (Below.refl _ _).alloc (Nat.le_refl _) _⟩
        case round =>
          clear hmm
          obtain ⟨k, f, rfl, hk, hto, hmap, htold, hbel⟩ := hrel
          have Hto2 := Lib.hid hto
          have Hmap := Lib.hid hmap
          have Htold := Lib.hid htold
          clear hto hmap htold
          by_cases hlt : k < l.length - 3
          · have hkl : 3 + k < l.length := by omega
            obtain ⟨b', o', cs, hbo, _, _, hc1, hat⟩ := R0.out (3 + k) hkl
            injection hbo with hbo
            injection hbo with hbo1 hbo2
            subst hbo1
            subst hbo2
            obtain ⟨a3, c3, rfl, hrf, _⟩ := hat
            have cellW : ∀ j, j < 6 → wr.cell? ⟨b, o + 18 + k * 6 + j, none⟩ = [Value.int .i64 l[3 + k].fKind, .int .i64 l[3 + k].fLong, .int .i64 l[3 + k].fBase, .slice a3 l[3 + k].fFields.length c3, .string l[3 + k].fOwner, .string l[3 + k].fName][j]? := fun j hj => by
              have := (hbel.cell (p := ⟨b, o + (3 + k) * 6 + j, none⟩) hb1).trans (hc1 j hj)
              rwa [show o + (3 + k) * 6 + j = o + 18 + k * 6 + j by omega] at this
            have e0 := cellW 0 (by decide)
            have e1 := cellW 1 (by decide)
            have e2 := cellW 2 (by decide)
            have e3 := cellW 3 (by decide)
            have e4 := cellW 4 (by decide)
            have e5 := cellW 5 (by decide)
            simp at e0 e1 e2 e3 e4 e5
            have Hbad := Lib.hid (near_bad (l := l) (k := 3 + k) (by omega) hkl)
            have Htw := Lib.hid (fun i (h3 : 3 ≤ i) (hik : i < 3 + k) => near_twice (l := l) h3 hik hkl)
            have Hnx := Lib.hid (nearTo_next hkl Hto2.out)
            have Hput := Lib.hid (toldT_put hkl Htold.out Hm.out)
            have Hmt := Lib.hid (Hm.out l[3 + k] (List.getElem_mem hkl))
            have HF := Lib.hid (hrf.below hbel)
            have HR := Lib.hid (R0.out.below hbel)
            have Hbel := Lib.hid hbel
            have hs1 := Hmt.out.1
            have hs2 := Hmt.out.2.1
            clear hbel hc1 hrf cellW
            generalize l[3 + k] = t at *
            go_wp2_with fail
            refine (iCalledOf t.fKind t.fLong t.fBase a3 t.fFields.length c3 t.fOwner t.fName _).mono ?_
            rintro e wc ⟨rfl, hbc⟩
            have hdt := (Below.refl wr.heap.size wr).alloc (Nat.le_refl _) (.cells #[.int .i64 t.fKind, .int .i64 t.fLong, .int .i64 t.fBase, .slice a3 t.fFields.length c3, .string t.fOwner, .string t.fName] 110)
            have hD0 : Below wr.heap.size wr wc := hdt.trans (hbc.mono hdt.size)
            have hXt := (Box.new wr 110 #[.int .i64 t.fKind, .int .i64 t.fLong, .int .i64 t.fBase, .slice a3 t.fFields.length c3, .string t.fOwner, .string t.fName]).below hbc (by simp)
            have u0 := hXt.cell 0
            have u1 := hXt.cell 1
            have u2 := hXt.cell 2
            have u3 := hXt.cell 3
            have u4 := hXt.cell 4
            have u5 := hXt.cell 5
            simp at u0 u1 u2 u3 u4 u5
            have hXl := hXt.lt
            have HM2 := Lib.hid (Hmap.out.block (w' := wc) (hD0.block _ Hmap.out.lt))
            have B2 := Lib.hid (Hbel.out.trans (hD0.mono Hbel.out.size))
            have HR2 := Lib.hid (HR.out.below hD0)
            have HF2 := Lib.hid (HF.out.below hD0)
            clear hbc hdt hD0 hXt e0 e1 e2 e3 e4 e5
            go_wp2_with fail
            refine (iIsShaped _ c l t a3 c3 _ (HR2.out.below ((Below.refl _ _).alloc (Nat.le_refl _) _)) Hmt.out (HF2.out.below ((Below.refl _ _).alloc (Nat.le_refl _) _))).mono ?_
            rintro e w3 ⟨rfl, hb3⟩
            have hB9 := (Box.new wc 158 #[.string t.fOwner, .string t.fName]).below hb3 (by simp)
            have y0 := hB9.cell 0
            have y1 := hB9.cell 1
            simp at y0 y1
            have HM3 := Lib.hid ((HM2.out.alloc (.cells #[.string t.fOwner, .string t.fName] 158)).block (w' := w3) (hb3.block _ (by have := HM2.out.lt; simp; omega)))
            have B3 := Lib.hid ((B2.out.alloc B2.out.size (.cells #[.string t.fOwner, .string t.fName] 158)).trans (hb3.mono (by have := B2.out.size; simp; omega)))
            clear u0 u1 u2 u3 u4 u5
            have HB9 := Lib.hid hB9
            clear hb3 hB9
            by_cases hsh : shapedOk l t
            · have hq := shapedB_true hsh
              have Hsh := Lib.hid hsh
              clear hsh
              generalize shapedB l t = q at *
              subst hq
              go_wp2_with fail
              refine (iIsCalled _ _ _ hs1 hs2).mono ?_
              rintro e w4 ⟨rfl, hb4⟩
              have hB9 := HB9.out.below hb4 HB9.out.lt
              have v0 := hB9.cell 0
              have v1 := hB9.cell 1
              simp at v0 v1
              have HM4 := Lib.hid (HM3.out.block (w' := w4) (hb4.block _ HM3.out.lt))
              have B4 := Lib.hid (B3.out.trans (hb4.mono B3.out.size))
              clear hb4 hB9 y0 y1
              by_cases hcl : calledOk t.fOwner t.fName
              · have hq := calledB_true hcl
                have Hcl := Lib.hid hcl
                clear hcl
                generalize calledB t.fOwner t.fName = q at *
                subst hq
                have hkey := fullKey hs1 hs2
                have hlook := HM4.out.look fullKeyed Tryz.underlying162 hkey
                have Hd := Lib.hid (Htold.out t.fOwner t.fName hs1 hs2)
                generalize hfv : f (fullK t.fOwner t.fName) = v at hlook
                have Hfv := Lib.hid hfv
                clear hfv
                cases v
                · have Hn := Lib.hid (Hnx.out ⟨Hcl.out, Hsh.out⟩ (fun i hi h3' hik h => by
                    have h2 := Hd.out.2 ⟨i, hi, h3', hik, by rw [← h.2.1]; exact h.1, h.2.2.symm, h.2.1.symm⟩
                    rw [Hfv.out] at h2
                    cases h2))
                  have HM5 := Lib.hid (HM4.out.block (w' := w4.drew) rfl)
                  rcases Hcl.out with hcn | hce
                  · have eo := isEmpty_not (s := t.fOwner) (by have := hcn.1.1; omega)
                    have en := isEmpty_not (s := t.fName) (by have := hcn.2.1; omega)
                    obtain ⟨wp, hputr, hmap2, hgrow⟩ := HM5.out.put fullKeyed Tryz.underlying162 (by unfold maxLen; omega) hkey true
                    have Hmap2 := Lib.hid hmap2
                    have Hgrow := Lib.hid hgrow
                    have Hp := Lib.hid (Hput.out true ⟨fun _ => by have := hcn.2.1; omega, fun _ => rfl⟩)
                    clear hmap2 hgrow hcn hkey
                    go_wp2_with fail
                    go_still_tail 5, (by kernel_rfl)
                    go_wp2_with fail
                    go_round
                    case rel =>
                      repeat apply Exists.intro
                      exact ⟨⟨k + 1, _, rfl, by omega, Hn.out, Hmap2.out, Hp.out, (belowN B4.out 1).grown Hgrow.out (by have := B4.out.size; simp; omega) (fun q hq => by injection hq with hq; omega)⟩, rfl⟩
                    case measure => simp [intOf]; omega
                  · have eo := isEmpty_of hce.1
                    have en := isEmpty_of hce.2
                    obtain ⟨wp, hputr, hmap2, hgrow⟩ := HM5.out.put fullKeyed Tryz.underlying162 (by unfold maxLen; omega) hkey false
                    have Hmap2 := Lib.hid hmap2
                    have Hgrow := Lib.hid hgrow
                    have Hp := Lib.hid (Hput.out false ⟨fun h => (by cases h), fun h => absurd hce.2 h⟩)
                    clear hmap2 hgrow hce hkey
                    go_wp2_with fail
                    go_still_tail 5, (by kernel_rfl)
                    go_wp2_with fail
                    go_round
                    case rel =>
                      repeat apply Exists.intro
                      exact ⟨⟨k + 1, _, rfl, by omega, Hn.out, Hmap2.out, Hp.out, (belowN B4.out 1).grown Hgrow.out (by have := B4.out.size; simp; omega) (fun q hq => by injection hq with hq; omega)⟩, rfl⟩
                    case measure => simp [intOf]; omega
                · obtain ⟨i, hi, h3', hik, h0, h1, h2⟩ := Hd.out.1 Hfv.out
                  have Hv := Lib.hid (Htw.out i h3' hik (fun h => h ⟨by rw [← h2]; exact h0, h2.symm, h1.symm⟩))
                  go_wp2_with fail
                  go_ret
                  exact ⟨by rw [Hv.out]; rfl, BB.out.trans (B4.out.mono BB.out.size)⟩
              · have hq := calledB_false hcl
                have Hv := Lib.hid (Hbad.out (fun h => hcl h.1))
                generalize calledB t.fOwner t.fName = q at *
                subst hq
                go_wp2_with fail
                go_ret
                exact ⟨by rw [Hv.out]; rfl, BB.out.trans (B4.out.mono BB.out.size)⟩
            · have hq := shapedB_false hsh
              have Hv := Lib.hid (Hbad.out (fun h => hsh h.2))
              generalize shapedB l t = q at *
              subst hq
              go_wp2_with fail
              go_ret
              exact ⟨by rw [Hv.out]; rfl, BB.out.trans (B3.out.mono BB.out.size)⟩
          · obtain rfl : k = l.length - 3 := by omega
            have Hv := Lib.hid (nearB_true ⟨Hbo.out, by omega, by have := Hto2.out; rwa [show 3 + (l.length - 3) = l.length by omega] at this⟩)
            have BB2 := Lib.hid (BB.out.trans (hbel.mono BB.out.size))
            clear hbel
            go_wp2_with fail
            go_ret
            exact ⟨by rw [Hv.out]; rfl, BB2.out⟩

end Go.Proofs.YtllddjmcemcdhaaGreat
