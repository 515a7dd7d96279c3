
/-
  What is proved: a contract of the program's alikeObjects. No condition beside what the theorem states.
-/
import Derived.Test.YtjkcbeehjgikgaaAlikeOne
import Derived.Deep.RegionHeld3
namespace Go.Proofs.Ytjkcbeehjgikgaa
open Go.ChangeShapes Go.WideShapes Go.ChangeAt Go.RowKit Go.Maps Go.WideMaps

set_option maxRecDepth 100000 in
set_option maxHeartbeats 16000000 in
theorem iAlikeObj (A B : List TypeD) (hA : near A) (hB : near B) (a b : Option Addr) (ca cb g : Nat) (o p : ObjectD) (oa pa : Option Addr) (oc pc : Nat) (w : World) (hol : o.fParams.length ≤ 1048576) (ho : objT A o) (hp : objT B p) (hM : MapIn A B w g) (hra : Rows typeS (fun b => b ≠ g) w a A) (hrb : Rows typeS (fun b => b ≠ g) w b B) (hro : Rows paramS (fun b => b ≠ g) w oa o.fParams) (hrp : Rows paramS (fun b => b ≠ g) w pa p.fParams) :
    Calls Try.prog 115 #[.agg #[.slice a A.length ca, .slice b B.length cb, .map (some g)], .agg #[.string o.fName, .int .i64 o.fKind, .int .i64 o.fMark, .int .i64 o.fType, .int .i64 o.fValue, .slice oa o.fParams.length oc], .agg #[.string p.fName, .int .i64 p.fKind, .int .i64 p.fMark, .int .i64 p.fType, .int .i64 p.fValue, .slice pa p.fParams.length pc]] w (IsAlike A B g (alikeO A B o p) w) := by
  have hg := hM.lt
  have hb0 : Below w.heap.size w (((w.alloc (.cells #[.slice a A.length ca, .slice b B.length cb, .map (some g)] 133)).alloc (.cells #[.string o.fName, .int .i64 o.fKind, .int .i64 o.fMark, .int .i64 o.fType, .int .i64 o.fValue, .slice oa o.fParams.length oc] 125)).alloc (.cells #[.string p.fName, .int .i64 p.fKind, .int .i64 p.fMark, .int .i64 p.fType, .int .i64 p.fValue, .slice pa p.fParams.length pc] 125)) := ((((Below.refl w.heap.size w).alloc (Nat.le_refl _) (.cells #[.slice a A.length ca, .slice b B.length cb, .map (some g)] 133)).alloc (by simp) (.cells #[.string o.fName, .int .i64 o.fKind, .int .i64 o.fMark, .int .i64 o.fType, .int .i64 o.fValue, .slice oa o.fParams.length oc] 125)).alloc (by simp; omega) (.cells #[.string p.fName, .int .i64 p.fKind, .int .i64 p.fMark, .int .i64 p.fType, .int .i64 p.fValue, .slice pa p.fParams.length pc] 125))
  have HO := Lib.hid (Only.ofBelow (g := g) (belowN hb0 1))
  have HM := Lib.hid (hM.below (belowN hb0 1))
  have HRa := Lib.hid (hra.below (belowN hb0 1))
  have HRb := Lib.hid (hrb.below (belowN hb0 1))
  have HX := Lib.hid (((Box.new w 133 #[.slice a A.length ca, .slice b B.length cb, .map (some g)]).alloc (.cells #[.string o.fName, .int .i64 o.fKind, .int .i64 o.fMark, .int .i64 o.fType, .int .i64 o.fValue, .slice oa o.fParams.length oc] 125)).alloc (.cells #[.string p.fName, .int .i64 p.fKind, .int .i64 p.fMark, .int .i64 p.fType, .int .i64 p.fValue, .slice pa p.fParams.length pc] 125)).drew
  have HY := Lib.hid ((Box.new' (w.alloc (.cells #[.slice a A.length ca, .slice b B.length cb, .map (some g)] 133)) 125 #[.string o.fName, .int .i64 o.fKind, .int .i64 o.fMark, .int .i64 o.fType, .int .i64 o.fValue, .slice oa o.fParams.length oc] (g := w.heap.size + 1) (by simp)).alloc (.cells #[.string p.fName, .int .i64 p.fKind, .int .i64 p.fMark, .int .i64 p.fType, .int .i64 p.fValue, .slice pa p.fParams.length pc] 125)).drew
  have HZ := Lib.hid (Box.new' ((w.alloc (.cells #[.slice a A.length ca, .slice b B.length cb, .map (some g)] 133)).alloc (.cells #[.string o.fName, .int .i64 o.fKind, .int .i64 o.fMark, .int .i64 o.fType, .int .i64 o.fValue, .slice oa o.fParams.length oc] 125)) 125 #[.string p.fName, .int .i64 p.fKind, .int .i64 p.fMark, .int .i64 p.fType, .int .i64 p.fValue, .slice pa p.fParams.length pc] (g := w.heap.size + 1 + 1) (by simp)).drew
  have HRA := Lib.hid hra
  have HRB := Lib.hid hrb
  have Hro := Lib.hid hro
  have Hrp := Lib.hid hrp
  have Ho := Lib.hid ho
  have Hp := Lib.hid hp
  have hne0 : w.heap.size ≠ g := by omega
  have hne1 : w.heap.size + 1 ≠ g := by omega
  have hne2 : w.heap.size + 1 + 1 ≠ g := by omega
  clear hb0 hM hra hrb hro hrp ho hp
  have heq := eqHeadO o.fName o.fMark o.fKind o.fValue o.fParams.length p.fName p.fMark p.fKind p.fValue p.fParams.length
  obtain ⟨hq, hhq⟩ : ∃ hq : Bool, ((o.fName.toList == p.fName.toList) && ((o.fMark == p.fMark) && ((o.fKind == p.fKind) && ((o.fValue == p.fValue) && ((o.fParams.length : Int) == (p.fParams.length : Int)))))) = hq := ⟨_, rfl⟩
  rw [hhq] at heq
  have Hhq := Lib.hid hhq
  clear hhq
  go_enter Try.func115, Try.ntmps115
  cases hq with
  | false =>
    have Hno := Lib.hid (show ¬ alikeO A B o p from fun h => by have := headsO_bool.2 h.1; rw [Hhq.out] at this; cases this)
    go_wp2_with fail
    refine wp_region_held_drew (S := fun w' => w'.cell? ⟨w.heap.size, 0, none⟩ = some (.slice a A.length ca) ∧ w'.cell? ⟨w.heap.size, 1, none⟩ = some (.slice b B.length cb) ∧ w'.cell? ⟨w.heap.size, 2, none⟩ = some (.map (some g)) ∧ w'.cell? ⟨w.heap.size + 1, 0, none⟩ = some (.string o.fName) ∧ w'.cell? ⟨w.heap.size + 1, 1, none⟩ = some (.int .i64 o.fKind) ∧ w'.cell? ⟨w.heap.size + 1, 2, none⟩ = some (.int .i64 o.fMark) ∧ w'.cell? ⟨w.heap.size + 1, 3, none⟩ = some (.int .i64 o.fType) ∧ w'.cell? ⟨w.heap.size + 1, 4, none⟩ = some (.int .i64 o.fValue) ∧ w'.cell? ⟨w.heap.size + 1, 5, none⟩ = some (.slice oa o.fParams.length oc) ∧ w'.cell? ⟨w.heap.size + 1 + 1, 0, none⟩ = some (.string p.fName) ∧ w'.cell? ⟨w.heap.size + 1 + 1, 1, none⟩ = some (.int .i64 p.fKind) ∧ w'.cell? ⟨w.heap.size + 1 + 1, 2, none⟩ = some (.int .i64 p.fMark) ∧ w'.cell? ⟨w.heap.size + 1 + 1, 3, none⟩ = some (.int .i64 p.fType) ∧ w'.cell? ⟨w.heap.size + 1 + 1, 4, none⟩ = some (.int .i64 p.fValue) ∧ w'.cell? ⟨w.heap.size + 1 + 1, 5, none⟩ = some (.slice pa p.fParams.length pc)) (by kernel_rfl) ?_ (fun hHeld => ?_)
    · try dsimp only
      exact ⟨HX.out.cell 0, HX.out.cell 1, HX.out.cell 2, HY.out.cell 0, HY.out.cell 1, HY.out.cell 2, HY.out.cell 3, HY.out.cell 4, HY.out.cell 5, HZ.out.cell 0, HZ.out.cell 1, HZ.out.cell 2, HZ.out.cell 3, HZ.out.cell 4, HZ.out.cell 5⟩
    refine wpAnyH_take (i := 0) (oi := { dst := some 10, op := Op.load 125 (Operand.tmp 4), type := 125, pos := "l4_scope.go:377", after := #[], guard := none }) (v := .agg #[.string o.fName, .int .i64 o.fKind, .int .i64 o.fMark, .int .i64 o.fType, .int .i64 o.fValue, .slice oa o.fParams.length oc]) rfl (by kernel_rfl) (by kernel_rfl) (by kernel_rfl) (fun _ _ _ h => h) (Or.inl ⟨by rfl, ?_⟩) (by assumption) ?_
    · intro wS hSw
      try dsimp only at hSw
      go_simp
    try simp only [Act.put, List.setIfInBounds_toArray, List.set_cons_zero, List.set_cons_succ]
    refine wpAnyH_take (i := 2) (oi := { dst := some 12, op := Op.load 125 (Operand.tmp 5), type := 125, pos := "l4_scope.go:377", after := #[], guard := none }) (v := .agg #[.string p.fName, .int .i64 p.fKind, .int .i64 p.fMark, .int .i64 p.fType, .int .i64 p.fValue, .slice pa p.fParams.length pc]) rfl (by kernel_rfl) (by kernel_rfl) (by kernel_rfl) (fun _ _ _ h => h) (Or.inl ⟨by rfl, ?_⟩) (by assumption) ?_
    · intro wS hSw
      try dsimp only at hSw
      go_simp
    try simp only [Act.put, List.setIfInBounds_toArray, List.set_cons_zero, List.set_cons_succ]
    refine wpAnyH_ready (rs := [1]) (by kernel_rfl) (by simp) ?_
    refine AllReadyH.cons (o := { dst := some 11, op := Op.call { callee := Callee.value (Operand.func 117), args := #[Operand.tmp 10], argTypes := #[125] }, type := 139, pos := "l4_scope.go:377", after := #[{ on := 0, ground := Ground.data }], guard := none }) rfl (fun K hK => ?_) AllReadyH.nil
    go_simp
    go_at_call 117
    refine (iHeadObj _ _ _ _ _ _ _ _ _).mono ?_
    rintro e wh ⟨rfl, hbh⟩
    have hsz := hbh.size
    replace HO := Lib.hid (HO.out.trans (Only.ofBelow hbh))
    replace HM := Lib.hid (HM.out.below hbh)
    replace HRa := Lib.hid (HRa.out.below hbh)
    replace HRb := Lib.hid (HRb.out.below hbh)
    replace HX := Lib.hid (HX.out.below hbh HX.out.lt)
    replace HY := Lib.hid (HY.out.below hbh HY.out.lt)
    replace HZ := Lib.hid (HZ.out.below hbh HZ.out.lt)
    refine hK.out _ _ ?_ (fun hHeld2 => ?_)
    · try dsimp only
      first
        | exact ⟨HX.out.cell 0, HX.out.cell 1, HX.out.cell 2, HY.out.cell 0, HY.out.cell 1, HY.out.cell 2, HY.out.cell 3, HY.out.cell 4, HY.out.cell 5, HZ.out.cell 0, HZ.out.cell 1, HZ.out.cell 2, HZ.out.cell 3, HZ.out.cell 4, HZ.out.cell 5⟩
        | (go_split_ands
           refine ⟨?_, ?_, ?_, ?_, ?_, ?_, ?_, ?_, ?_, ?_, ?_, ?_, ?_, ?_, ?_⟩ <;> (rw [hbh.cell (by first | (simp at *; omega) | (simp at *; done) | omega)]; assumption))
    clear hK K hHeld
    have hHeld := hHeld2
    clear hHeld2
    try simp only [Act.put, List.setIfInBounds_toArray, List.set_cons_zero, List.set_cons_succ]
    refine wpAnyH_ready (rs := [3]) (by kernel_rfl) (by simp) ?_
    refine AllReadyH.cons (o := { dst := some 13, op := Op.call { callee := Callee.value (Operand.func 117), args := #[Operand.tmp 12], argTypes := #[125] }, type := 139, pos := "l4_scope.go:377", after := #[{ on := 2, ground := Ground.data }, { on := 1, ground := Ground.chain }], guard := none }) rfl (fun K hK => ?_) AllReadyH.nil
    go_simp
    go_at_call 117
    refine (iHeadObj _ _ _ _ _ _ _ _ _).mono ?_
    rintro e wh ⟨rfl, hbh⟩
    have hsz := hbh.size
    replace HO := Lib.hid (HO.out.trans (Only.ofBelow hbh))
    replace HM := Lib.hid (HM.out.below hbh)
    replace HRa := Lib.hid (HRa.out.below hbh)
    replace HRb := Lib.hid (HRb.out.below hbh)
    replace HX := Lib.hid (HX.out.below hbh HX.out.lt)
    replace HY := Lib.hid (HY.out.below hbh HY.out.lt)
    replace HZ := Lib.hid (HZ.out.below hbh HZ.out.lt)
    refine hK.out _ _ ?_ (fun hHeld2 => ?_)
    · try dsimp only
      first
        | exact ⟨HX.out.cell 0, HX.out.cell 1, HX.out.cell 2, HY.out.cell 0, HY.out.cell 1, HY.out.cell 2, HY.out.cell 3, HY.out.cell 4, HY.out.cell 5, HZ.out.cell 0, HZ.out.cell 1, HZ.out.cell 2, HZ.out.cell 3, HZ.out.cell 4, HZ.out.cell 5⟩
        | (go_split_ands
           refine ⟨?_, ?_, ?_, ?_, ?_, ?_, ?_, ?_, ?_, ?_, ?_, ?_, ?_, ?_, ?_⟩ <;> (rw [hbh.cell (by first | (simp at *; omega) | (simp at *; done) | omega)]; assumption))
    clear hK K hHeld
    have hHeld := hHeld2
    clear hHeld2
    try simp only [Act.put, List.setIfInBounds_toArray, List.set_cons_zero, List.set_cons_succ]
    refine wpAnyH_take (i := 4) (oi := { dst := some 14, op := Op.binOp BinOp.neq 139 (Operand.tmp 11) (Operand.tmp 13) 139, type := 4, pos := "l4_scope.go:377", after := #[{ on := 1, ground := Ground.data }, { on := 3, ground := Ground.data }], guard := none }) (v := .bool true) rfl (by kernel_rfl) (by kernel_rfl) (by kernel_rfl) (fun _ _ _ h => h) (Or.inl ⟨by rfl, ?_⟩) (by assumption) ?_
    · intro wS hSw
      try dsimp only at hSw
      go_simp
    try simp only [Act.put, List.setIfInBounds_toArray, List.set_cons_zero, List.set_cons_succ]
    refine wpAnyH_take (i := 5) (oi := { dst := some 15, op := Op.move (Operand.tmp 14), type := 4, pos := "l4_scope.go:377", after := #[{ on := 4, ground := Ground.data }, { on := 3, ground := Ground.chain }], guard := none }) (v := .bool true) rfl (by kernel_rfl) (by kernel_rfl) (by kernel_rfl) (fun _ _ _ h => h) (Or.inl ⟨by rfl, ?_⟩) (by assumption) ?_
    · intro wS hSw
      try dsimp only at hSw
      go_simp
    try simp only [Act.put, List.setIfInBounds_toArray, List.set_cons_zero, List.set_cons_succ]
    refine wpAnyH_take (i := 6) (oi := { dst := some 16, op := Op.load 133 (Operand.tmp 3), type := 133, pos := "l4_scope.go:377", after := #[{ on := 5, ground := Ground.guard }], guard := some (5, false) }) (v := undef) rfl (by kernel_rfl) (by kernel_rfl) (by kernel_rfl) (fun _ _ _ h => h) (Or.inr ⟨by rfl, rfl⟩) (by assumption) ?_
    try simp only [Act.put, List.setIfInBounds_toArray, List.set_cons_zero, List.set_cons_succ]
    refine wpAnyH_take (i := 7) (oi := { dst := some 17, op := Op.fieldAddr 125 (Operand.tmp 4) 3, type := 0, pos := "l4_scope.go:377", after := #[{ on := 5, ground := Ground.guard }], guard := some (5, false) }) (v := undef) rfl (by kernel_rfl) (by kernel_rfl) (by kernel_rfl) (fun _ _ _ h => h) (Or.inr ⟨by rfl, rfl⟩) (by assumption) ?_
    try simp only [Act.put, List.setIfInBounds_toArray, List.set_cons_zero, List.set_cons_succ]
    refine wpAnyH_take (i := 8) (oi := { dst := some 18, op := Op.load 3 (Operand.tmp 17), type := 3, pos := "l4_scope.go:377", after := #[{ on := 7, ground := Ground.data }, { on := 5, ground := Ground.guard }], guard := some (5, false) }) (v := undef) rfl (by kernel_rfl) (by kernel_rfl) (by kernel_rfl) (fun _ _ _ h => h) (Or.inr ⟨by rfl, rfl⟩) (by assumption) ?_
    try simp only [Act.put, List.setIfInBounds_toArray, List.set_cons_zero, List.set_cons_succ]
    refine wpAnyH_take (i := 9) (oi := { dst := some 19, op := Op.fieldAddr 125 (Operand.tmp 5) 3, type := 0, pos := "l4_scope.go:377", after := #[{ on := 5, ground := Ground.guard }], guard := some (5, false) }) (v := undef) rfl (by kernel_rfl) (by kernel_rfl) (by kernel_rfl) (fun _ _ _ h => h) (Or.inr ⟨by rfl, rfl⟩) (by assumption) ?_
    try simp only [Act.put, List.setIfInBounds_toArray, List.set_cons_zero, List.set_cons_succ]
    refine wpAnyH_take (i := 10) (oi := { dst := some 20, op := Op.load 3 (Operand.tmp 19), type := 3, pos := "l4_scope.go:377", after := #[{ on := 9, ground := Ground.data }, { on := 5, ground := Ground.guard }], guard := some (5, false) }) (v := undef) rfl (by kernel_rfl) (by kernel_rfl) (by kernel_rfl) (fun _ _ _ h => h) (Or.inr ⟨by rfl, rfl⟩) (by assumption) ?_
    try simp only [Act.put, List.setIfInBounds_toArray, List.set_cons_zero, List.set_cons_succ]
    refine wpAnyH_take (i := 11) (oi := { dst := some 21, op := Op.call { callee := Callee.value (Operand.func 160), args := #[Operand.tmp 16, Operand.tmp 18, Operand.tmp 20], argTypes := #[133, 3, 3] }, type := 4, pos := "l4_scope.go:377", after := #[{ on := 6, ground := Ground.data }, { on := 8, ground := Ground.data }, { on := 10, ground := Ground.data }, { on := 5, ground := Ground.chain }, { on := 5, ground := Ground.guard }], guard := some (5, false) }) (v := undef) rfl (by kernel_rfl) (by kernel_rfl) (by kernel_rfl) (fun _ _ _ h => h) (Or.inr ⟨by rfl, rfl⟩) (by assumption) ?_
    try simp only [Act.put, List.setIfInBounds_toArray, List.set_cons_zero, List.set_cons_succ]
    refine wpAnyH_take (i := 12) (oi := { dst := some 22, op := Op.unOp UnOp.not 4 (Operand.tmp 21), type := 4, pos := "l4_scope.go:377", after := #[{ on := 11, ground := Ground.data }, { on := 5, ground := Ground.guard }], guard := some (5, false) }) (v := undef) rfl (by kernel_rfl) (by kernel_rfl) (by kernel_rfl) (fun _ _ _ h => h) (Or.inr ⟨by rfl, rfl⟩) (by assumption) ?_
    try simp only [Act.put, List.setIfInBounds_toArray, List.set_cons_zero, List.set_cons_succ]
    refine wpAnyH_take (i := 13) (oi := { dst := some 23, op := Op.pick (Operand.tmp 15) (Operand.const (Value.bool true)) (Operand.tmp 22), type := 4, pos := "l4_scope.go:377", after := #[{ on := 5, ground := Ground.data }, { on := 12, ground := Ground.data }], guard := none }) (v := .bool true) rfl (by kernel_rfl) (by kernel_rfl) (by kernel_rfl) (fun _ _ _ h => h) (Or.inl ⟨by rfl, ?_⟩) (by assumption) ?_
    · intro wS hSw
      try dsimp only at hSw
      go_simp
    try simp only [Act.put, List.setIfInBounds_toArray, List.set_cons_zero, List.set_cons_succ]
    refine wpAnyH_done (by kernel_rfl) ?_ _
    go_wp2_with fail
    go_ret
    unfold IsAlike
    exact ⟨false, rfl, fun h => (by cases h), fun _ => Hno.out, HO.out⟩
  | true =>
    have Hh := Lib.hid (headsO_bool.1 Hhq.out)
    go_wp2_with fail
    go_region_held3 (fun w' => w'.cell? ⟨w.heap.size, 0, none⟩ = some (.slice a A.length ca) ∧ w'.cell? ⟨w.heap.size, 1, none⟩ = some (.slice b B.length cb) ∧ w'.cell? ⟨w.heap.size, 2, none⟩ = some (.map (some g)) ∧ w'.cell? ⟨w.heap.size + 1, 0, none⟩ = some (.string o.fName) ∧ w'.cell? ⟨w.heap.size + 1, 1, none⟩ = some (.int .i64 o.fKind) ∧ w'.cell? ⟨w.heap.size + 1, 2, none⟩ = some (.int .i64 o.fMark) ∧ w'.cell? ⟨w.heap.size + 1, 3, none⟩ = some (.int .i64 o.fType) ∧ w'.cell? ⟨w.heap.size + 1, 4, none⟩ = some (.int .i64 o.fValue) ∧ w'.cell? ⟨w.heap.size + 1, 5, none⟩ = some (.slice oa o.fParams.length oc) ∧ w'.cell? ⟨w.heap.size + 1 + 1, 0, none⟩ = some (.string p.fName) ∧ w'.cell? ⟨w.heap.size + 1 + 1, 1, none⟩ = some (.int .i64 p.fKind) ∧ w'.cell? ⟨w.heap.size + 1 + 1, 2, none⟩ = some (.int .i64 p.fMark) ∧ w'.cell? ⟨w.heap.size + 1 + 1, 3, none⟩ = some (.int .i64 p.fType) ∧ w'.cell? ⟨w.heap.size + 1 + 1, 4, none⟩ = some (.int .i64 p.fValue) ∧ w'.cell? ⟨w.heap.size + 1 + 1, 5, none⟩ = some (.slice pa p.fParams.length pc))
      (first
        | exact ⟨HX.out.cell 0, HX.out.cell 1, HX.out.cell 2, HY.out.cell 0, HY.out.cell 1, HY.out.cell 2, HY.out.cell 3, HY.out.cell 4, HY.out.cell 5, HZ.out.cell 0, HZ.out.cell 1, HZ.out.cell 2, HZ.out.cell 3, HZ.out.cell 4, HZ.out.cell 5⟩
        | (go_split_ands
           refine ⟨?_, ?_, ?_, ?_, ?_, ?_, ?_, ?_, ?_, ?_, ?_, ?_, ?_, ?_, ?_⟩ <;> (rw [World.grownBy.cell_far hon _ (by first | (simp at *; omega) | (simp at *; done) | omega) (by first | (simp; omega) | simp)]; assumption))
        | (go_split_ands
           refine ⟨?_, ?_, ?_, ?_, ?_, ?_, ?_, ?_, ?_, ?_, ?_, ?_, ?_, ?_, ?_⟩ <;> (rw [hbh.cell (by first | (simp at *; omega) | (simp at *; done) | omega)]; assumption)))
      (first
        | (go_at_call 117; refine (iHeadObj _ _ _ _ _ _ _ _ _).mono ?_; rintro e wh ⟨rfl, hbh⟩; have hsz := hbh.size; replace HO := Lib.hid (HO.out.trans (Only.ofBelow hbh)); replace HM := Lib.hid (HM.out.below hbh); replace HRa := Lib.hid (HRa.out.below hbh); replace HRb := Lib.hid (HRb.out.below hbh); replace HX := Lib.hid (HX.out.below hbh HX.out.lt); replace HY := Lib.hid (HY.out.below hbh HY.out.lt); replace HZ := Lib.hid (HZ.out.below hbh HZ.out.lt))
        | (go_at_call 160; refine (iAlikeOrNone A B hA hB a b ca cb g o.fType p.fType _ Ho.out.1 Hp.out.1 HM.out HRa.out HRb.out).mono ?_; rintro e wh ⟨v, rfl, hv1, hv2, hon⟩; have hsz := hon.size; have V1 := Lib.hid hv1; have V2 := Lib.hid hv2; clear hv1 hv2; replace HO := Lib.hid (HO.out.trans hon); replace HX := Lib.hid (HX.out.only hon hne0); replace HY := Lib.hid (HY.out.only hon hne1); replace HZ := Lib.hid (HZ.out.only hon hne2)))
    clear HM HRa HRb heq
    cases v with
    | false =>
      have Hno := Lib.hid (show ¬ alikeO A B o p from fun h => V2.out rfl h.2.1)
      go_wp2_with fail
      go_ret
      unfold IsAlike
      exact ⟨false, rfl, fun h => (by cases h), fun _ => Hno.out, HO.out⟩
    | true =>
      have Hsim := Lib.hid (V1.out rfl).1
      have HM := Lib.hid (V1.out rfl).2
      have x5 := HY.out.cell 5
      simp at x5
      clear V1 V2
      go_wp2_with fail
      clear x5
      go_loopw [27] (fun i wr => ∃ k : Nat, i = .int .i64 k ∧ k ≤ o.fParams.length ∧ parTo A B o.fParams p.fParams k ∧ MapIn A B wr g ∧ Box wr w.heap.size 133 #[.slice a A.length ca, .slice b B.length cb, .map (some g)] ∧ Box wr (w.heap.size + 1) 125 #[.string o.fName, .int .i64 o.fKind, .int .i64 o.fMark, .int .i64 o.fType, .int .i64 o.fValue, .slice oa o.fParams.length oc] ∧ Box wr (w.heap.size + 1 + 1) 125 #[.string p.fName, .int .i64 p.fKind, .int .i64 p.fMark, .int .i64 p.fType, .int .i64 p.fValue, .slice pa p.fParams.length pc] ∧ Only g w wr) (fun i _ => o.fParams.length - (intOf i).toNat)
      case atStart => exact ⟨0, rfl, by omega, parTo_zero, HM.out, HX.out, HY.out, HZ.out, HO.out⟩
      case round =>
        clear HM HX HY HZ HO
        obtain ⟨k, rfl, hk, hto, hM, hX, hY, hZ, hO⟩ := hrel
        have Hto := Lib.hid hto
        clear hto
        by_cases hlt : k < o.fParams.length
        · have hlt' : k < p.fParams.length := by rw [← Hh.out.2.2.2.2]; exact hlt
          obtain ⟨b1, o1, cs, hba, _, hb1, hc1, hat⟩ := (Rows.only Hro.out hO) k hlt
          obtain ⟨b2, o2, cs', hba', _, hb2, hc2, hat'⟩ := (Rows.only Hrp.out hO) k hlt'
          obtain rfl : cs = [.string o.fParams[k].fName, .bool o.fParams[k].fByVar, .int .i64 o.fParams[k].fType] := hat
          obtain rfl : cs' = [.string p.fParams[k].fName, .bool p.fParams[k].fByVar, .int .i64 p.fParams[k].fType] := hat'
          subst hba
          subst hba'
          have hbA := (Below.refl wr.heap.size wr).alloc (Nat.le_refl _) (.cells (parQ o.fParams[k]) 177)
          have hbB := hbA.alloc hbA.size (.cells (parQ p.fParams[k]) 177)
          have hn : paramS.n = 3 := rfl
          have e0 := hc1 0 (by decide)
          have e1 := hc1 1 (by decide)
          have e2 := hc1 2 (by decide)
          have q0 := (hbA.cell (p := ⟨b2, o2 + k * 3 + 0, none⟩) hb2).trans (hc2 0 (by decide))
          have q1 := (hbA.cell (p := ⟨b2, o2 + k * 3 + 1, none⟩) hb2).trans (hc2 1 (by decide))
          have q2 := (hbA.cell (p := ⟨b2, o2 + k * 3 + 2, none⟩) hb2).trans (hc2 2 (by decide))
          have y5 := (hZ.below hbA hZ.lt).cell 5
          have z0 := (hX.below hbB hX.lt).cell 0
          have z1 := (hX.below hbB hX.lt).cell 1
          have z2 := (hX.below hbB hX.lt).cell 2
          simp only [hn, Nat.add_zero, List.getElem?_cons_zero, List.getElem?_cons_succ] at e0 e1 e2 q0 q1 q2
          have y5' : (wr.alloc (.cells (parQ o.fParams[k]) 177)).cell? ⟨w.heap.size + 1 + 1, 5, none⟩ = some (.slice (some ⟨b2, o2, none⟩) p.fParams.length pc) := y5
          have z0' : ((wr.alloc (.cells (parQ o.fParams[k]) 177)).alloc (.cells (parQ p.fParams[k]) 177)).cell? ⟨w.heap.size, 0, none⟩ = some (.slice a A.length ca) := z0
          have z1' : ((wr.alloc (.cells (parQ o.fParams[k]) 177)).alloc (.cells (parQ p.fParams[k]) 177)).cell? ⟨w.heap.size, 1, none⟩ = some (.slice b B.length cb) := z1
          have z2' : ((wr.alloc (.cells (parQ o.fParams[k]) 177)).alloc (.cells (parQ p.fParams[k]) 177)).cell? ⟨w.heap.size, 2, none⟩ = some (.map (some g)) := z2
          have i1 : (0 : Int) ≤ (k : Int) := by omega
          have i2 : (k : Int) < (p.fParams.length : Int) := by omega
          have i3 : (k : Int) < (o.fParams.length : Int) := by omega
          have Hbad := Lib.hid (fun h => alikeO_bad (A := A) (B := B) hlt hlt' h)
          have Hnx := Lib.hid (fun h => parTo_next hlt hlt' Hto.out h)
          have Htt := Lib.hid (Ho.out.2 _ (List.getElem_mem hlt))
          have Htu := Lib.hid (Hp.out.2 _ (List.getElem_mem hlt'))
          have lx := hX.lt
          have ly := hY.lt
          have lz := hZ.lt
          have M2 := Lib.hid (hM.below hbB)
          have X2 := Lib.hid (hX.below hbB hX.lt)
          have Y2 := Lib.hid (hY.below hbB hY.lt)
          have Z2 := Lib.hid (hZ.below hbB hZ.lt)
          have O2 := Lib.hid (hO.trans (Only.ofBelow hbB))
          have Ra := Lib.hid ((Rows.only HRA.out hO).below hbB)
          have Rb := Lib.hid ((Rows.only HRB.out hO).below hbB)
          clear hM hX hY hZ hO hbA hbB y5 z0 z1 z2 hc1 hc2 hn
          generalize o.fParams[k] = t at *
          generalize p.fParams[k] = u at *
          clear hlt'
          obtain ⟨tn, tb, tt⟩ := t
          obtain ⟨un, ub, ut⟩ := u
          simp only at *
          by_cases n1 : tn = un
          case neg =>
            have Hno := Lib.hid (Hbad.out (fun h => n1 h.1))
            have hb := bytes_same tn un false (by simp [n1])
            clear n1
            go_wp2_with fail
            go_ret
            unfold IsAlike
            exact ⟨false, rfl, fun h => (by cases h), fun _ => Hno.out, O2.out⟩
          by_cases n2 : tb = ub
          case neg =>
            have Hno := Lib.hid (Hbad.out (fun h => n2 h.2.1))
            have hb := bytes_same tn un true (by simp [n1])
            have hbb : (tb != ub) = true := by simpa using n2
            clear n1
            go_wp2_with fail
            go_ret
            unfold IsAlike
            exact ⟨false, rfl, fun h => (by cases h), fun _ => Hno.out, O2.out⟩
          have hb := bytes_same tn un true (by simp [n1])
          have N1 := Lib.hid n1
          clear n1
          subst n2
          have hal := iAlike1 A B hA hB a b ca cb g tt ut _ ⟨Htt.out, Htu.out⟩ M2.out Ra.out Rb.out
          have Hal := Lib.hid hal
          clear hal
          go_wp2_with fail
          refine Hal.out.mono ?_
          rintro e w5 ⟨v, rfl, hv1, hv2, hon⟩
          have V1 := Lib.hid hv1
          have V2 := Lib.hid hv2
          have O5 := Lib.hid (O2.out.trans hon)
          have X5 := Lib.hid (X2.out.only hon hne0)
          have Y5 := Lib.hid (Y2.out.only hon hne1)
          have Z5 := Lib.hid (Z2.out.only hon hne2)
          clear hv1 hv2 hon Hal
          cases v with
          | true =>
            have hv := V1.out (by simp)
            have Hn := Lib.hid (Hnx.out ⟨N1.out, by simp, hv.1⟩)
            have M5 := Lib.hid hv.2
            clear hv
            go_wp2_with fail
            go_round
            case rel =>
              repeat apply Exists.intro
              exact ⟨⟨k + 1, by go_num, by omega, Hn.out, M5.out, X5.out, Y5.out, Z5.out, O5.out⟩, rfl⟩
            case measure => simp [intOf]; omega
          | false =>
            have Hno := Lib.hid (Hbad.out (fun h => V2.out rfl h.2.2))
            go_wp2_with fail
            go_ret
            unfold IsAlike
            exact ⟨false, rfl, fun h => (by cases h), fun _ => Hno.out, O5.out⟩
        · have Hv := Lib.hid (show alikeO A B o p from ⟨Hh.out, Hsim.out, by rw [← show k = o.fParams.length by omega]; exact Hto.out⟩)
          have HM := Lib.hid hM
          have HO := Lib.hid hO
          clear hM hX hY hZ hO
          go_wp2_with fail
          go_ret
          unfold IsAlike
          exact ⟨true, rfl, fun _ => ⟨Hv.out, HM.out⟩, fun h => (by cases h), HO.out⟩
end Go.Proofs.Ytjkcbeehjgikgaa
