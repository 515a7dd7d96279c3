
/-
  What is proved: contracts of the program's isCalled and headOf. No condition beside what each theorem states.
-/
import Derived.Test.YtjbnabjfeepbeaaIFields
namespace Go.Proofs.Ytjbnabjfeepbeaa
open Go.ChangeShapes Go.WideShapes Go.ChangeAt Go.RowKit

open Classical in
noncomputable def calledB (o n : ByteArray) : Bool := decide (calledOk o n)
theorem calledB_true {o n : ByteArray} (h : calledOk o n) : calledB o n = true := by unfold calledB; simpa using h
theorem calledB_false {o n : ByteArray} (h : ¬ calledOk o n) : calledB o n = false := by unfold calledB; simpa using h

set_option maxHeartbeats 2000000 in
theorem iIsCalled (o n : ByteArray) (w : World) (ho : o.size ≤ maxLen) (hn : n.size ≤ maxLen) :
    Calls Try.prog 131 #[.agg #[.string o, .string n]] w fun e w' => e = .returned (.bool (calledB o n)) ∧ Below w.heap.size w w' := by
  by_cases h1 : o.size = 0
  · have e1 := isEmpty_of h1
    by_cases h2 : n.size = 0
    · have e2 := isEmpty_of h2
      have Hv := Lib.hid (calledB_true (.inr ⟨h1, h2⟩))
      go_enter Try.func131, Try.ntmps131
      go_wp2_with fail
      go_ret
      exact ⟨by rw [Hv.out]; rfl, (Below.refl _ _).alloc (Nat.le_refl _) _⟩
    · have e2 := isEmpty_not h2
      have qo := nameB_false (s := o) (fun h => by have := h.1; omega)
      have Hv := Lib.hid (calledB_false (o := o) (n := n) (fun h => h.elim (fun h => by have := h.1.1; omega) (fun h => h2 h.2)))
      go_enter Try.func131, Try.ntmps131
      go_wp2_with (go_at_call 103; refine (iGoodName _ _ (by first | exact ho | exact hn)).mono ?_; rintro e w' ⟨rfl, rfl⟩)
      go_ret
      exact ⟨by rw [Hv.out]; rfl, (Below.refl _ _).alloc (Nat.le_refl _) _⟩
  · have e1 := isEmpty_not h1
    by_cases q1 : nameP o
    · have qo := nameB_true q1
      by_cases q2 : nameP n
      · have qn := nameB_true q2
        have Hv := Lib.hid (calledB_true (.inl ⟨q1, q2⟩))
        go_enter Try.func131, Try.ntmps131
        go_wp2_with (go_at_call 103; refine (iGoodName _ _ (by first | exact ho | exact hn)).mono ?_; rintro e w' ⟨rfl, rfl⟩)
        go_ret
        exact ⟨by rw [Hv.out]; rfl, (Below.refl _ _).alloc (Nat.le_refl _) _⟩
      · have qn := nameB_false q2
        have Hv := Lib.hid (calledB_false (o := o) (n := n) (fun h => h.elim (fun h => q2 h.2) (fun h => h1 h.1)))
        go_enter Try.func131, Try.ntmps131
        go_wp2_with (go_at_call 103; refine (iGoodName _ _ (by first | exact ho | exact hn)).mono ?_; rintro e w' ⟨rfl, rfl⟩)
        go_ret
        exact ⟨by rw [Hv.out]; rfl, (Below.refl _ _).alloc (Nat.le_refl _) _⟩
    · have qo := nameB_false q1
      have Hv := Lib.hid (calledB_false (o := o) (n := n) (fun h => h.elim (fun h => q1 h.1) (fun h => h1 h.1)))
      go_enter Try.func131, Try.ntmps131
      go_wp2_with (go_at_call 103; refine (iGoodName _ _ (by first | exact ho | exact hn)).mono ?_; rintro e w' ⟨rfl, rfl⟩)
      go_ret
      exact ⟨by rw [Hv.out]; rfl, (Below.refl _ _).alloc (Nat.le_refl _) _⟩

theorem sizeHead : (Try.prog.info? 174).map (·.size) = some 6 := by kernel_rfl
theorem sizeFull : (Try.prog.info? 172).map (·.size) = some 2 := by kernel_rfl
set_option maxHeartbeats 2000000 in
theorem iCalledOf (kd lg bs : Int) (a3 : Option Addr) (n3 c3 : Nat) (o n : ByteArray) (w : World) :
    Calls Try.prog 129 #[.agg #[.int .i64 kd, .int .i64 lg, .int .i64 bs, .slice a3 n3 c3, .string o, .string n]] w fun e w' => e = .returned (.agg #[.string o, .string n]) ∧ Below w.heap.size w w' := by
  go_enter Try.func129, Try.ntmps129
  go_wp2_with fail
  refine bodyPost_ret (results_one rfl Try.underlying172 rfl _ _ (w.heap.size + 1) #[.string o, .string n] rfl 172 (Box.new' _ _ _ (by simp)) 2 sizeFull rfl) rfl ?_
  exact ⟨rfl, ((Below.refl _ _).alloc (Nat.le_refl _) _).alloc (by simp) _⟩
set_option maxRecDepth 100000 in
set_option maxHeartbeats 4000000 in
theorem iHeadOf (kd lg bs : Int) (a3 : Option Addr) (n3 c3 : Nat) (o n : ByteArray) (w : World) :
    Calls Try.prog 128 #[.agg #[.int .i64 kd, .int .i64 lg, .int .i64 bs, .slice a3 n3 c3, .string o, .string n]] w fun e w' => e = .returned (.agg #[.string o, .string n, .int .i64 kd, .int .i64 lg, .int .i64 (n3 : Int), .bool (bs != -1)]) ∧ Below w.heap.size w w' := by
  have X0 := (Box.new w 32 #[.int .i64 kd, .int .i64 lg, .int .i64 bs, .slice a3 n3 c3, .string o, .string n]).alloc (.cells #[.string ⟨#[]⟩, .string ⟨#[]⟩, .int .i64 0, .int .i64 0, .int .i64 0, .bool false] 174)
  have Y0 := Box.new' (w.alloc (.cells #[.int .i64 kd, .int .i64 lg, .int .i64 bs, .slice a3 n3 c3, .string o, .string n] 32)) 174 #[.string ⟨#[]⟩, .string ⟨#[]⟩, .int .i64 0, .int .i64 0, .int .i64 0, .bool false] (g := w.heap.size + 1) (by simp)
  have B0 := Lib.hid (((Below.refl w.heap.size w).alloc (Nat.le_refl _) (.cells #[.int .i64 kd, .int .i64 lg, .int .i64 bs, .slice a3 n3 c3, .string o, .string n] 32)).alloc (by simp) (.cells #[.string ⟨#[]⟩, .string ⟨#[]⟩, .int .i64 0, .int .i64 0, .int .i64 0, .bool false] 174))
  go_enter Try.func128, Try.ntmps128
  go_wp2_with fail
  generalize hv : ((w.alloc (.cells #[.int .i64 kd, .int .i64 lg, .int .i64 bs, .slice a3 n3 c3, .string o, .string n] 32)).alloc (.cells #[.string ⟨#[]⟩, .string ⟨#[]⟩, .int .i64 0, .int .i64 0, .int .i64 0, .bool false] 174)) = v0 at *
  have t0 := X0.cell 0
  have y0 := Y0.cell 0
  have f0 := Y0.free 0
  have t1 := X0.cell 1
  have y1 := Y0.cell 1
  have f1 := Y0.free 1
  have t2 := X0.cell 2
  have y2 := Y0.cell 2
  have f2 := Y0.free 2
  have t3 := X0.cell 3
  have y3 := Y0.cell 3
  have f3 := Y0.free 3
  have t4 := X0.cell 4
  have y4 := Y0.cell 4
  have f4 := Y0.free 4
  have t5 := X0.cell 5
  have y5 := Y0.cell 5
  have f5 := Y0.free 5
  simp at t0 t1 t2 t3 t4 t5 y0 y1 y2 y3 y4 y5
  have hlx := X0.lt
  have hly := Y0.lt
  have HY := Lib.hid Y0
  clear hv X0 Y0
  refine wp_region_held_drew (S := fun w' => w'.cell? ⟨w.heap.size, 0, none⟩ = some (.int .i64 kd) ∧ w'.cell? ⟨w.heap.size, 1, none⟩ = some (.int .i64 lg) ∧ w'.cell? ⟨w.heap.size, 2, none⟩ = some (.int .i64 bs) ∧ w'.cell? ⟨w.heap.size, 3, none⟩ = some (.slice a3 n3 c3) ∧ w'.cell? ⟨w.heap.size, 4, none⟩ = some (.string o) ∧ w'.cell? ⟨w.heap.size, 5, none⟩ = some (.string n)) (by kernel_rfl) ?_ (fun hHeld => ?_)
  · exact ⟨t0, t1, t2, t3, t4, t5⟩
  refine wpAnyH_take (i := 0) (oi := { dst := some 3, op := Op.load 32 (Operand.tmp 1), type := 32, pos := "l3_types.go:181", after := #[], guard := none }) (v := .agg #[.int .i64 kd, .int .i64 lg, .int .i64 bs, .slice a3 n3 c3, .string o, .string n]) rfl (by kernel_rfl) (by kernel_rfl) (by kernel_rfl) (fun _ _ _ h => h) (Or.inl ⟨by rfl, ?_⟩) (by assumption) ?_
  · intro wS hSw
    try dsimp only at hSw
    go_simp
  try simp only [Act.put, List.setIfInBounds_toArray, List.set_cons_zero, List.set_cons_succ]
  refine wpAnyH_take (i := 2) (oi := { dst := some 5, op := Op.fieldAddr 32 (Operand.tmp 1) 0, type := 0, pos := "l3_types.go:181", after := #[], guard := none }) (v := .pointer (some ⟨w.heap.size, 0, none⟩)) rfl (by kernel_rfl) (by kernel_rfl) (by kernel_rfl) (fun _ _ _ h => h) (Or.inl ⟨by rfl, ?_⟩) (by assumption) ?_
  · intro wS hSw
    try dsimp only at hSw
    go_simp
  try simp only [Act.put, List.setIfInBounds_toArray, List.set_cons_zero, List.set_cons_succ]
  refine wpAnyH_take (i := 3) (oi := { dst := some 6, op := Op.load 3 (Operand.tmp 5), type := 3, pos := "l3_types.go:181", after := #[{ on := 2, ground := Ground.data }], guard := none }) (v := .int .i64 kd) rfl (by kernel_rfl) (by kernel_rfl) (by kernel_rfl) (fun _ _ _ h => h) (Or.inl ⟨by rfl, ?_⟩) (by assumption) ?_
  · intro wS hSw
    try dsimp only at hSw
    go_simp
  try simp only [Act.put, List.setIfInBounds_toArray, List.set_cons_zero, List.set_cons_succ]
  refine wpAnyH_take (i := 4) (oi := { dst := some 7, op := Op.fieldAddr 32 (Operand.tmp 1) 1, type := 0, pos := "l3_types.go:181", after := #[], guard := none }) (v := .pointer (some ⟨w.heap.size, 1, none⟩)) rfl (by kernel_rfl) (by kernel_rfl) (by kernel_rfl) (fun _ _ _ h => h) (Or.inl ⟨by rfl, ?_⟩) (by assumption) ?_
  · intro wS hSw
    try dsimp only at hSw
    go_simp
  try simp only [Act.put, List.setIfInBounds_toArray, List.set_cons_zero, List.set_cons_succ]
  refine wpAnyH_take (i := 5) (oi := { dst := some 8, op := Op.load 3 (Operand.tmp 7), type := 3, pos := "l3_types.go:181", after := #[{ on := 4, ground := Ground.data }], guard := none }) (v := .int .i64 lg) rfl (by kernel_rfl) (by kernel_rfl) (by kernel_rfl) (fun _ _ _ h => h) (Or.inl ⟨by rfl, ?_⟩) (by assumption) ?_
  · intro wS hSw
    try dsimp only at hSw
    go_simp
  try simp only [Act.put, List.setIfInBounds_toArray, List.set_cons_zero, List.set_cons_succ]
  refine wpAnyH_take (i := 6) (oi := { dst := some 9, op := Op.fieldAddr 32 (Operand.tmp 1) 3, type := 0, pos := "l3_types.go:181", after := #[], guard := none }) (v := .pointer (some ⟨w.heap.size, 3, none⟩)) rfl (by kernel_rfl) (by kernel_rfl) (by kernel_rfl) (fun _ _ _ h => h) (Or.inl ⟨by rfl, ?_⟩) (by assumption) ?_
  · intro wS hSw
    try dsimp only at hSw
    go_simp
  try simp only [Act.put, List.setIfInBounds_toArray, List.set_cons_zero, List.set_cons_succ]
  refine wpAnyH_take (i := 7) (oi := { dst := some 10, op := Op.load 30 (Operand.tmp 9), type := 30, pos := "l3_types.go:181", after := #[{ on := 6, ground := Ground.data }], guard := none }) (v := .slice a3 n3 c3) rfl (by kernel_rfl) (by kernel_rfl) (by kernel_rfl) (fun _ _ _ h => h) (Or.inl ⟨by rfl, ?_⟩) (by assumption) ?_
  · intro wS hSw
    try dsimp only at hSw
    go_simp
  try simp only [Act.put, List.setIfInBounds_toArray, List.set_cons_zero, List.set_cons_succ]
  refine wpAnyH_take (i := 8) (oi := { dst := some 11, op := Op.call { callee := Callee.builtin Builtin.len, args := #[Operand.tmp 10], argTypes := #[30] }, type := 3, pos := "l3_types.go:181", after := #[{ on := 7, ground := Ground.data }], guard := none }) (v := .int .i64 (n3 : Int)) rfl (by kernel_rfl) (by kernel_rfl) (by kernel_rfl) (fun _ _ _ h => h) (Or.inl ⟨by rfl, ?_⟩) (by assumption) ?_
  · intro wS hSw
    try dsimp only at hSw
    go_simp
  try simp only [Act.put, List.setIfInBounds_toArray, List.set_cons_zero, List.set_cons_succ]
  refine wpAnyH_take (i := 9) (oi := { dst := some 12, op := Op.fieldAddr 32 (Operand.tmp 1) 2, type := 0, pos := "l3_types.go:181", after := #[], guard := none }) (v := .pointer (some ⟨w.heap.size, 2, none⟩)) rfl (by kernel_rfl) (by kernel_rfl) (by kernel_rfl) (fun _ _ _ h => h) (Or.inl ⟨by rfl, ?_⟩) (by assumption) ?_
  · intro wS hSw
    try dsimp only at hSw
    go_simp
  try simp only [Act.put, List.setIfInBounds_toArray, List.set_cons_zero, List.set_cons_succ]
  refine wpAnyH_take (i := 10) (oi := { dst := some 13, op := Op.load 3 (Operand.tmp 12), type := 3, pos := "l3_types.go:181", after := #[{ on := 9, ground := Ground.data }], guard := none }) (v := .int .i64 bs) rfl (by kernel_rfl) (by kernel_rfl) (by kernel_rfl) (fun _ _ _ h => h) (Or.inl ⟨by rfl, ?_⟩) (by assumption) ?_
  · intro wS hSw
    try dsimp only at hSw
    go_simp
  try simp only [Act.put, List.setIfInBounds_toArray, List.set_cons_zero, List.set_cons_succ]
  refine wpAnyH_take (i := 11) (oi := { dst := some 14, op := Op.binOp BinOp.neq 3 (Operand.tmp 13) (Operand.const (Value.int IntKind.i64 (-1))) 3, type := 4, pos := "l3_types.go:181", after := #[{ on := 10, ground := Ground.data }], guard := none }) (v := .bool (bs != -1)) rfl (by kernel_rfl) (by kernel_rfl) (by kernel_rfl) (fun _ _ _ h => h) (Or.inl ⟨by rfl, ?_⟩) (by assumption) ?_
  · intro wS hSw
    try dsimp only at hSw
    go_simp
  try simp only [Act.put, List.setIfInBounds_toArray, List.set_cons_zero, List.set_cons_succ]
  refine wpAnyH_ready (rs := [1]) (by kernel_rfl) (by simp) ?_
  refine AllReadyH.cons (o := { dst := some 4, op := Op.call { callee := Callee.value (Operand.func 129), args := #[Operand.tmp 3], argTypes := #[32] }, type := 172, pos := "l3_types.go:182", after := #[{ on := 0, ground := Ground.data }], guard := none }) rfl (fun K hK => ?_) AllReadyH.nil
  go_simp
  go_at_call 129
  refine (iCalledOf _ _ _ _ _ _ _ _ _).mono ?_
  rintro e wh ⟨rfl, hbh⟩
  have hsz := hbh.size
  refine hK.out _ _ ?_ (fun hHeld2 => ?_)
  · try dsimp only
    exact ⟨(hbh.cell (p := ⟨w.heap.size, 0, none⟩) hlx).trans t0, (hbh.cell (p := ⟨w.heap.size, 1, none⟩) hlx).trans t1, (hbh.cell (p := ⟨w.heap.size, 2, none⟩) hlx).trans t2, (hbh.cell (p := ⟨w.heap.size, 3, none⟩) hlx).trans t3, (hbh.cell (p := ⟨w.heap.size, 4, none⟩) hlx).trans t4, (hbh.cell (p := ⟨w.heap.size, 5, none⟩) hlx).trans t5⟩
  clear hK K hHeld
  have hHeld := hHeld2
  try simp only [Act.put, List.setIfInBounds_toArray, List.set_cons_zero, List.set_cons_succ]
  refine wpAnyH_take (i := 12) (oi := { dst := some 15, op := Op.build 174 #[(0, Operand.tmp 4), (1, Operand.tmp 6), (2, Operand.tmp 8), (3, Operand.tmp 11), (4, Operand.tmp 14)], type := 174, pos := "l3_types.go:181", after := #[{ on := 1, ground := Ground.data }, { on := 3, ground := Ground.data }, { on := 5, ground := Ground.data }, { on := 8, ground := Ground.data }, { on := 11, ground := Ground.data }], guard := none }) (v := .agg #[.string o, .string n, .int .i64 kd, .int .i64 lg, .int .i64 (n3 : Int), .bool (bs != -1)]) rfl (by kernel_rfl) (by kernel_rfl) (by kernel_rfl) (fun _ _ _ h => h) (Or.inl ⟨by rfl, ?_⟩) (by assumption) ?_
  · intro wS hSw
    try dsimp only at hSw
    go_simp
  try simp only [Act.put, List.setIfInBounds_toArray, List.set_cons_zero, List.set_cons_succ]
  have HB := Lib.hid ((belowN B0.out 1).trans (hbh.mono (belowN B0.out 1).size))
  have HYw := (HY.out.drew).below hbh hly
  have z0 := HYw.cell 0
  have f0 := HYw.free 0
  have z1 := HYw.cell 1
  have f1 := HYw.free 1
  have z2 := HYw.cell 2
  have f2 := HYw.free 2
  have z3 := HYw.cell 3
  have f3 := HYw.free 3
  have z4 := HYw.cell 4
  have f4 := HYw.free 4
  have z5 := HYw.cell 5
  have f5 := HYw.free 5
  simp at z0 z1 z2 z3 z4 z5
  have HZ := Lib.hid HYw
  clear HYw HY B0 t0 t1 t2 t3 t4 t5 hbh
  refine wpAnyH_ready (rs := [13]) (by kernel_rfl) (by simp) ?_
  refine AllReadyH.cons (o := { dst := none, op := Op.store 174 (Operand.tmp 2) (Operand.tmp 15), type := 0, pos := "l3_types.go:181", after := #[{ on := 12, ground := Ground.data }, { on := 1, ground := Ground.chain }, { on := 0, ground := Ground.phase }, { on := 1, ground := Ground.phase }, { on := 2, ground := Ground.phase }, { on := 3, ground := Ground.phase }, { on := 4, ground := Ground.phase }, { on := 5, ground := Ground.phase }, { on := 6, ground := Ground.phase }, { on := 7, ground := Ground.phase }, { on := 8, ground := Ground.phase }, { on := 9, ground := Ground.phase }, { on := 10, ground := Ground.phase }, { on := 11, ground := Ground.phase }, { on := 12, ground := Ground.phase }], guard := none }) rfl (fun K hK => ?_) AllReadyH.nil
  go_simp
  refine hK.out _ _ ?_ (fun hHeld3 => ?_)
  · try dsimp only
    have ne : (w.heap.size : Nat) ≠ w.heap.size + 1 := by omega
    go_keep
  clear hK K
  refine wpAnyH_done (by kernel_rfl) ?_ _
  go_wp2_with fail
  refine bodyPost_ret (results_one rfl Try.underlying174 rfl _ _ (w.heap.size + 1) #[.string o, .string n, .int .i64 kd, .int .i64 lg, .int .i64 (n3 : Int), .bool (bs != -1)] rfl 174 ?qbox 6 sizeHead rfl) rfl ?_
  case qbox => exact ((((((HZ.out.set 0 _).set 1 _).set 2 _).set 3 _).set 4 _).set 5 _)
  have hb := HB.out
  exact ⟨rfl, ((((((hb.setCell (by show w.heap.size ≤ w.heap.size + 1; omega) _).setCell (by show w.heap.size ≤ w.heap.size + 1; omega) _).setCell (by show w.heap.size ≤ w.heap.size + 1; omega) _).setCell (by show w.heap.size ≤ w.heap.size + 1; omega) _).setCell (by show w.heap.size ≤ w.heap.size + 1; omega) _).setCell (by show w.heap.size ≤ w.heap.size + 1; omega) _)⟩

/-- All that is asked of a type but for what it is called. -/
def shapedOk (l : List TypeD) (t : TypeD) : Prop :=
  (t.fKind = 4 ∧ (1 ≤ t.fLong ∧ t.fLong ≤ 1000) ∧ (0 ≤ t.fBase ∧ t.fBase < (l.length : Int)) ∧ t.fFields.length = 0) ∨
   (t.fKind = 5 ∧ t.fLong = 0 ∧ (t.fBase = -1 ∨ kindZ l t.fBase = 5) ∧ fieldsOk l.length t.fFields) ∨
   (t.fKind = 6 ∧ t.fLong = 0 ∧ (kindZ l t.fBase = 5 ∨ kindZ l t.fBase = 4) ∧ t.fFields.length = 0)
theorem typeOk_iff {l : List TypeD} {t : TypeD} : typeOk l t ↔ calledOk t.fOwner t.fName ∧ shapedOk l t := Iff.rfl
open Classical in
noncomputable def shapedB (l : List TypeD) (t : TypeD) : Bool := decide (shapedOk l t)
theorem shapedB_true {l : List TypeD} {t : TypeD} (h : shapedOk l t) : shapedB l t = true := by unfold shapedB; simpa using h
theorem shapedB_false {l : List TypeD} {t : TypeD} (h : ¬ shapedOk l t) : shapedB l t = false := by unfold shapedB; simpa using h

set_option maxRecDepth 100000 in
set_option maxHeartbeats 4000000 in
theorem iIsShaped (a : Option Addr) (c : Nat) (l : List TypeD) (t : TypeD) (a3 : Option Addr) (c3 : Nat) (w : World) (hr : Rows typeS Any w a l) (hm : t.mod) (hf : Rows fieldS Any w a3 t.fFields) :
    Calls Try.prog 130 #[.slice a l.length c, .agg #[.int .i64 t.fKind, .int .i64 t.fLong, .int .i64 t.fBase, .slice a3 t.fFields.length c3, .string t.fOwner, .string t.fName]] w fun e w' => e = .returned (.bool (shapedB l t)) ∧ Below w.heap.size w w' := by
  obtain ⟨_, _, hs3, hs4⟩ := hm
  have R := Lib.hid hr
  have F := Lib.hid hf
  clear hr hf
  by_cases hk5 : t.fKind = 5
  · by_cases hl0 : t.fLong = 0
    · by_cases hb1 : t.fBase = -1
      · have hb2 : (t.fBase == -1) = true := beq_iff_eq.2 hb1
        have Hv := Lib.hid (show shapedB l t = fieldsB l.length t.fFields from by
          by_cases hF : fieldsOk l.length t.fFields
          · rw [fieldsB_true hF, shapedB_true (.inr (.inl ⟨hk5, hl0, .inl hb1, hF⟩))]
          · rw [fieldsB_false hF, shapedB_false]
            rintro (⟨h, _⟩ | ⟨_, _, _, h⟩ | ⟨h, _⟩)
            · omega
            · exact hF h
            · omega)
        go_enter Try.func130, Try.ntmps130
        go_wp2_with (first | (go_at_call 77; refine (iKindAt _ _ l _ _ (R.out.below ((Below.refl _ _).alloc (Nat.le_refl _) _))).mono ?_; rintro e w' ⟨rfl, rfl⟩) | (go_at_call 56; refine (iTypeNumber _ _ _ _ _).mono ?_; rw [hd]; rintro e w' ⟨rfl, rfl⟩) | (go_at_call 178; refine (iAreFields _ _ _ _ _ t.fFields _ hs3 hs4 (F.out.below ((Below.refl _ _).alloc (Nat.le_refl _) _))).mono ?_; rintro e w' ⟨rfl, hbF⟩))
        go_ret
        exact ⟨by rw [Hv.out]; rfl, ((Below.refl w.heap.size w).alloc (Nat.le_refl _) _).trans (hbF.mono (by simp))⟩
      have hb2 : (t.fBase == -1) = false := beq_eq_false_iff_ne.2 hb1
      by_cases hb5 : kindZ l t.fBase = 5
      · skip
        have Hv := Lib.hid (show shapedB l t = fieldsB l.length t.fFields from by
          by_cases hF : fieldsOk l.length t.fFields
          · rw [fieldsB_true hF, shapedB_true (.inr (.inl ⟨hk5, hl0, .inr hb5, hF⟩))]
          · rw [fieldsB_false hF, shapedB_false]
            rintro (⟨h, _⟩ | ⟨_, _, _, h⟩ | ⟨h, _⟩)
            · omega
            · exact hF h
            · omega)
        go_enter Try.func130, Try.ntmps130
        go_wp2_with (first | (go_at_call 77; refine (iKindAt _ _ l _ _ (R.out.below ((Below.refl _ _).alloc (Nat.le_refl _) _))).mono ?_; rintro e w' ⟨rfl, rfl⟩) | (go_at_call 56; refine (iTypeNumber _ _ _ _ _).mono ?_; rw [hd]; rintro e w' ⟨rfl, rfl⟩) | (go_at_call 178; refine (iAreFields _ _ _ _ _ t.fFields _ hs3 hs4 (F.out.below ((Below.refl _ _).alloc (Nat.le_refl _) _))).mono ?_; rintro e w' ⟨rfl, hbF⟩))
        go_ret
        exact ⟨by rw [Hv.out]; rfl, ((Below.refl w.heap.size w).alloc (Nat.le_refl _) _).trans (hbF.mono (by simp))⟩
      · skip
        have Hv := Lib.hid (show shapedB l t = false from shapedB_false (by
          rintro (⟨h, _⟩ | ⟨_, _, h3, _⟩ | ⟨h, _⟩)
          · omega
          · exact h3.elim hb1 hb5
          · omega))
        have hb6 : (kindZ l t.fBase == 5) = false := beq_eq_false_iff_ne.2 hb5
        go_enter Try.func130, Try.ntmps130
        go_wp2_with (first | (go_at_call 77; refine (iKindAt _ _ l _ _ (R.out.below ((Below.refl _ _).alloc (Nat.le_refl _) _))).mono ?_; rintro e w' ⟨rfl, rfl⟩) | (go_at_call 56; refine (iTypeNumber _ _ _ _ _).mono ?_; rw [hd]; rintro e w' ⟨rfl, rfl⟩) | (go_at_call 178; refine (iAreFields _ _ _ _ _ t.fFields _ hs3 hs4 (F.out.below ((Below.refl _ _).alloc (Nat.le_refl _) _))).mono ?_; rintro e w' ⟨rfl, hbF⟩))
        go_ret
        exact ⟨by rw [Hv.out]; rfl, (Below.refl w.heap.size w).alloc (Nat.le_refl _) _⟩
    · have hl1 : (t.fLong == 0) = false := beq_eq_false_iff_ne.2 hl0
      have Hv := Lib.hid (show shapedB l t = false from shapedB_false (by
        rintro (⟨h, _⟩ | ⟨_, h2, _⟩ | ⟨h, _⟩)
        · omega
        · exact hl0 h2
        · omega))
      go_enter Try.func130, Try.ntmps130
      go_wp2_with (first | (go_at_call 77; refine (iKindAt _ _ l _ _ (R.out.below ((Below.refl _ _).alloc (Nat.le_refl _) _))).mono ?_; rintro e w' ⟨rfl, rfl⟩) | (go_at_call 56; refine (iTypeNumber _ _ _ _ _).mono ?_; rw [hd]; rintro e w' ⟨rfl, rfl⟩) | (go_at_call 178; refine (iAreFields _ _ _ _ _ t.fFields _ hs3 hs4 (F.out.below ((Below.refl _ _).alloc (Nat.le_refl _) _))).mono ?_; rintro e w' ⟨rfl, hbF⟩))
      go_ret
      exact ⟨by rw [Hv.out]; rfl, (Below.refl w.heap.size w).alloc (Nat.le_refl _) _⟩
  by_cases hk4 : t.fKind = 4
  · by_cases hL1 : 1 ≤ t.fLong
    · have hL11 : decide (1 ≤ t.fLong) = true := decide_eq_true hL1
      by_cases hL2 : t.fLong ≤ 1000
      · have hL21 : decide (t.fLong ≤ 1000) = true := decide_eq_true hL2
        by_cases hB : 0 ≤ t.fBase ∧ t.fBase < (l.length : Int)
        · have hd := decide_eq_true hB
          by_cases hz : t.fFields.length = 0
          · skip
            have Hv := Lib.hid (shapedB_true (l := l) (t := t) (.inl ⟨hk4, ⟨hL1, hL2⟩, hB, hz⟩))
            clear hB
            go_enter Try.func130, Try.ntmps130
            go_wp2_with (first | (go_at_call 77; refine (iKindAt _ _ l _ _ (R.out.below ((Below.refl _ _).alloc (Nat.le_refl _) _))).mono ?_; rintro e w' ⟨rfl, rfl⟩) | (go_at_call 56; refine (iTypeNumber _ _ _ _ _).mono ?_; rw [hd]; rintro e w' ⟨rfl, rfl⟩) | (go_at_call 178; refine (iAreFields _ _ _ _ _ t.fFields _ hs3 hs4 (F.out.below ((Below.refl _ _).alloc (Nat.le_refl _) _))).mono ?_; rintro e w' ⟨rfl, hbF⟩))
            go_ret
            exact ⟨by rw [Hv.out]; rfl, (Below.refl w.heap.size w).alloc (Nat.le_refl _) _⟩
          · skip
            have Hv := Lib.hid (show shapedB l t = false from shapedB_false (by
              rintro (⟨_, _, _, h4⟩ | ⟨h, _⟩ | ⟨h, _⟩)
              · exact hz h4
              · omega
              · omega))
            clear hB
            have hz1 : ((t.fFields.length : Int) == 0) = false := beq_eq_false_iff_ne.2 (by omega)
            go_enter Try.func130, Try.ntmps130
            go_wp2_with (first | (go_at_call 77; refine (iKindAt _ _ l _ _ (R.out.below ((Below.refl _ _).alloc (Nat.le_refl _) _))).mono ?_; rintro e w' ⟨rfl, rfl⟩) | (go_at_call 56; refine (iTypeNumber _ _ _ _ _).mono ?_; rw [hd]; rintro e w' ⟨rfl, rfl⟩) | (go_at_call 178; refine (iAreFields _ _ _ _ _ t.fFields _ hs3 hs4 (F.out.below ((Below.refl _ _).alloc (Nat.le_refl _) _))).mono ?_; rintro e w' ⟨rfl, hbF⟩))
            go_ret
            exact ⟨by rw [Hv.out]; rfl, (Below.refl w.heap.size w).alloc (Nat.le_refl _) _⟩
        · have hd := decide_eq_false hB
          have Hv := Lib.hid (show shapedB l t = false from shapedB_false (by
            rintro (⟨_, _, h3, _⟩ | ⟨h, _⟩ | ⟨h, _⟩)
            · exact hB h3
            · omega
            · omega))
          clear hB
          go_enter Try.func130, Try.ntmps130
          go_wp2_with (first | (go_at_call 77; refine (iKindAt _ _ l _ _ (R.out.below ((Below.refl _ _).alloc (Nat.le_refl _) _))).mono ?_; rintro e w' ⟨rfl, rfl⟩) | (go_at_call 56; refine (iTypeNumber _ _ _ _ _).mono ?_; rw [hd]; rintro e w' ⟨rfl, rfl⟩) | (go_at_call 178; refine (iAreFields _ _ _ _ _ t.fFields _ hs3 hs4 (F.out.below ((Below.refl _ _).alloc (Nat.le_refl _) _))).mono ?_; rintro e w' ⟨rfl, hbF⟩))
          go_ret
          exact ⟨by rw [Hv.out]; rfl, (Below.refl w.heap.size w).alloc (Nat.le_refl _) _⟩
      · have hL21 : decide (t.fLong ≤ 1000) = false := decide_eq_false hL2
        have Hv := Lib.hid (show shapedB l t = false from shapedB_false (by
          rintro (⟨_, h2, _⟩ | ⟨h, _⟩ | ⟨h, _⟩)
          · exact hL2 h2.2
          · omega
          · omega))
        go_enter Try.func130, Try.ntmps130
        go_wp2_with (first | (go_at_call 77; refine (iKindAt _ _ l _ _ (R.out.below ((Below.refl _ _).alloc (Nat.le_refl _) _))).mono ?_; rintro e w' ⟨rfl, rfl⟩) | (go_at_call 56; refine (iTypeNumber _ _ _ _ _).mono ?_; rw [hd]; rintro e w' ⟨rfl, rfl⟩) | (go_at_call 178; refine (iAreFields _ _ _ _ _ t.fFields _ hs3 hs4 (F.out.below ((Below.refl _ _).alloc (Nat.le_refl _) _))).mono ?_; rintro e w' ⟨rfl, hbF⟩))
        go_ret
        exact ⟨by rw [Hv.out]; rfl, (Below.refl w.heap.size w).alloc (Nat.le_refl _) _⟩
    · have hL11 : decide (1 ≤ t.fLong) = false := decide_eq_false hL1
      have Hv := Lib.hid (show shapedB l t = false from shapedB_false (by
        rintro (⟨_, h2, _⟩ | ⟨h, _⟩ | ⟨h, _⟩)
        · exact hL1 h2.1
        · omega
        · omega))
      go_enter Try.func130, Try.ntmps130
      go_wp2_with (first | (go_at_call 77; refine (iKindAt _ _ l _ _ (R.out.below ((Below.refl _ _).alloc (Nat.le_refl _) _))).mono ?_; rintro e w' ⟨rfl, rfl⟩) | (go_at_call 56; refine (iTypeNumber _ _ _ _ _).mono ?_; rw [hd]; rintro e w' ⟨rfl, rfl⟩) | (go_at_call 178; refine (iAreFields _ _ _ _ _ t.fFields _ hs3 hs4 (F.out.below ((Below.refl _ _).alloc (Nat.le_refl _) _))).mono ?_; rintro e w' ⟨rfl, hbF⟩))
      go_ret
      exact ⟨by rw [Hv.out]; rfl, (Below.refl w.heap.size w).alloc (Nat.le_refl _) _⟩
  by_cases hk6 : t.fKind = 6
  · by_cases hl0 : t.fLong = 0
    · by_cases hz : t.fFields.length = 0
      · by_cases hb5 : kindZ l t.fBase = 5
        · skip
          have Hv := Lib.hid (shapedB_true (l := l) (t := t) (.inr (.inr ⟨hk6, hl0, .inl hb5, hz⟩)))
          go_enter Try.func130, Try.ntmps130
          go_wp2_with (first | (go_at_call 77; refine (iKindAt _ _ l _ _ (R.out.below ((Below.refl _ _).alloc (Nat.le_refl _) _))).mono ?_; rintro e w' ⟨rfl, rfl⟩) | (go_at_call 56; refine (iTypeNumber _ _ _ _ _).mono ?_; rw [hd]; rintro e w' ⟨rfl, rfl⟩) | (go_at_call 178; refine (iAreFields _ _ _ _ _ t.fFields _ hs3 hs4 (F.out.below ((Below.refl _ _).alloc (Nat.le_refl _) _))).mono ?_; rintro e w' ⟨rfl, hbF⟩))
          go_ret
          exact ⟨by rw [Hv.out]; rfl, (Below.refl w.heap.size w).alloc (Nat.le_refl _) _⟩
        have hb51 : (kindZ l t.fBase == 5) = false := beq_eq_false_iff_ne.2 hb5
        by_cases hb4 : kindZ l t.fBase = 4
        · skip
          have Hv := Lib.hid (shapedB_true (l := l) (t := t) (.inr (.inr ⟨hk6, hl0, .inr hb4, hz⟩)))
          go_enter Try.func130, Try.ntmps130
          go_wp2_with (first | (go_at_call 77; refine (iKindAt _ _ l _ _ (R.out.below ((Below.refl _ _).alloc (Nat.le_refl _) _))).mono ?_; rintro e w' ⟨rfl, rfl⟩) | (go_at_call 56; refine (iTypeNumber _ _ _ _ _).mono ?_; rw [hd]; rintro e w' ⟨rfl, rfl⟩) | (go_at_call 178; refine (iAreFields _ _ _ _ _ t.fFields _ hs3 hs4 (F.out.below ((Below.refl _ _).alloc (Nat.le_refl _) _))).mono ?_; rintro e w' ⟨rfl, hbF⟩))
          go_ret
          exact ⟨by rw [Hv.out]; rfl, (Below.refl w.heap.size w).alloc (Nat.le_refl _) _⟩
        · have hb41 : (kindZ l t.fBase == 4) = false := beq_eq_false_iff_ne.2 hb4
          have Hv := Lib.hid (show shapedB l t = false from shapedB_false (by
            rintro (⟨h, _⟩ | ⟨h, _⟩ | ⟨_, _, h3, _⟩)
            · omega
            · omega
            · exact h3.elim hb5 hb4))
          go_enter Try.func130, Try.ntmps130
          go_wp2_with (first | (go_at_call 77; refine (iKindAt _ _ l _ _ (R.out.below ((Below.refl _ _).alloc (Nat.le_refl _) _))).mono ?_; rintro e w' ⟨rfl, rfl⟩) | (go_at_call 56; refine (iTypeNumber _ _ _ _ _).mono ?_; rw [hd]; rintro e w' ⟨rfl, rfl⟩) | (go_at_call 178; refine (iAreFields _ _ _ _ _ t.fFields _ hs3 hs4 (F.out.below ((Below.refl _ _).alloc (Nat.le_refl _) _))).mono ?_; rintro e w' ⟨rfl, hbF⟩))
          go_ret
          exact ⟨by rw [Hv.out]; rfl, (Below.refl w.heap.size w).alloc (Nat.le_refl _) _⟩
      · have hz1 : ((t.fFields.length : Int) == 0) = false := beq_eq_false_iff_ne.2 (by omega)
        by_cases hb5 : kindZ l t.fBase = 5
        · skip
          have Hv := Lib.hid (show shapedB l t = false from shapedB_false (by
            rintro (⟨h, _⟩ | ⟨h, _⟩ | ⟨_, _, _, h4⟩)
            · omega
            · omega
            · exact hz h4))
          go_enter Try.func130, Try.ntmps130
          go_wp2_with (first | (go_at_call 77; refine (iKindAt _ _ l _ _ (R.out.below ((Below.refl _ _).alloc (Nat.le_refl _) _))).mono ?_; rintro e w' ⟨rfl, rfl⟩) | (go_at_call 56; refine (iTypeNumber _ _ _ _ _).mono ?_; rw [hd]; rintro e w' ⟨rfl, rfl⟩) | (go_at_call 178; refine (iAreFields _ _ _ _ _ t.fFields _ hs3 hs4 (F.out.below ((Below.refl _ _).alloc (Nat.le_refl _) _))).mono ?_; rintro e w' ⟨rfl, hbF⟩))
          go_ret
          exact ⟨by rw [Hv.out]; rfl, (Below.refl w.heap.size w).alloc (Nat.le_refl _) _⟩
        have hb51 : (kindZ l t.fBase == 5) = false := beq_eq_false_iff_ne.2 hb5
        by_cases hb4 : kindZ l t.fBase = 4
        · skip
          have Hv := Lib.hid (show shapedB l t = false from shapedB_false (by
            rintro (⟨h, _⟩ | ⟨h, _⟩ | ⟨_, _, _, h4⟩)
            · omega
            · omega
            · exact hz h4))
          go_enter Try.func130, Try.ntmps130
          go_wp2_with (first | (go_at_call 77; refine (iKindAt _ _ l _ _ (R.out.below ((Below.refl _ _).alloc (Nat.le_refl _) _))).mono ?_; rintro e w' ⟨rfl, rfl⟩) | (go_at_call 56; refine (iTypeNumber _ _ _ _ _).mono ?_; rw [hd]; rintro e w' ⟨rfl, rfl⟩) | (go_at_call 178; refine (iAreFields _ _ _ _ _ t.fFields _ hs3 hs4 (F.out.below ((Below.refl _ _).alloc (Nat.le_refl _) _))).mono ?_; rintro e w' ⟨rfl, hbF⟩))
          go_ret
          exact ⟨by rw [Hv.out]; rfl, (Below.refl w.heap.size w).alloc (Nat.le_refl _) _⟩
        · have hb41 : (kindZ l t.fBase == 4) = false := beq_eq_false_iff_ne.2 hb4
          have Hv := Lib.hid (show shapedB l t = false from shapedB_false (by
            rintro (⟨h, _⟩ | ⟨h, _⟩ | ⟨_, _, _, h4⟩)
            · omega
            · omega
            · exact hz h4))
          go_enter Try.func130, Try.ntmps130
          go_wp2_with (first | (go_at_call 77; refine (iKindAt _ _ l _ _ (R.out.below ((Below.refl _ _).alloc (Nat.le_refl _) _))).mono ?_; rintro e w' ⟨rfl, rfl⟩) | (go_at_call 56; refine (iTypeNumber _ _ _ _ _).mono ?_; rw [hd]; rintro e w' ⟨rfl, rfl⟩) | (go_at_call 178; refine (iAreFields _ _ _ _ _ t.fFields _ hs3 hs4 (F.out.below ((Below.refl _ _).alloc (Nat.le_refl _) _))).mono ?_; rintro e w' ⟨rfl, hbF⟩))
          go_ret
          exact ⟨by rw [Hv.out]; rfl, (Below.refl w.heap.size w).alloc (Nat.le_refl _) _⟩
    · have hl1 : (t.fLong == 0) = false := beq_eq_false_iff_ne.2 hl0
      have Hv := Lib.hid (show shapedB l t = false from shapedB_false (by
        rintro (⟨h, _⟩ | ⟨h, _⟩ | ⟨_, h2, _⟩)
        · omega
        · omega
        · exact hl0 h2))
      go_enter Try.func130, Try.ntmps130
      go_wp2_with (first | (go_at_call 77; refine (iKindAt _ _ l _ _ (R.out.below ((Below.refl _ _).alloc (Nat.le_refl _) _))).mono ?_; rintro e w' ⟨rfl, rfl⟩) | (go_at_call 56; refine (iTypeNumber _ _ _ _ _).mono ?_; rw [hd]; rintro e w' ⟨rfl, rfl⟩) | (go_at_call 178; refine (iAreFields _ _ _ _ _ t.fFields _ hs3 hs4 (F.out.below ((Below.refl _ _).alloc (Nat.le_refl _) _))).mono ?_; rintro e w' ⟨rfl, hbF⟩))
      go_ret
      exact ⟨by rw [Hv.out]; rfl, (Below.refl w.heap.size w).alloc (Nat.le_refl _) _⟩
  · skip
    have Hv := Lib.hid (show shapedB l t = false from shapedB_false (by
      rintro (⟨h, _⟩ | ⟨h, _⟩ | ⟨h, _⟩)
      · exact hk4 h
      · exact hk5 h
      · exact hk6 h))
    have hk41 : (t.fKind == 4) = false := beq_eq_false_iff_ne.2 hk4
    have hk51 : (t.fKind == 5) = false := beq_eq_false_iff_ne.2 hk5
    have hk61 : (t.fKind == 6) = false := beq_eq_false_iff_ne.2 hk6
    go_enter Try.func130, Try.ntmps130
    go_wp2_with (first | (go_at_call 77; refine (iKindAt _ _ l _ _ (R.out.below ((Below.refl _ _).alloc (Nat.le_refl _) _))).mono ?_; rintro e w' ⟨rfl, rfl⟩) | (go_at_call 56; refine (iTypeNumber _ _ _ _ _).mono ?_; rw [hd]; rintro e w' ⟨rfl, rfl⟩) | (go_at_call 178; refine (iAreFields _ _ _ _ _ t.fFields _ hs3 hs4 (F.out.below ((Below.refl _ _).alloc (Nat.le_refl _) _))).mono ?_; rintro e w' ⟨rfl, hbF⟩))
    go_ret
    exact ⟨by rw [Hv.out]; rfl, (Below.refl w.heap.size w).alloc (Nat.le_refl _) _⟩

end Go.Proofs.Ytjbnabjfeepbeaa
