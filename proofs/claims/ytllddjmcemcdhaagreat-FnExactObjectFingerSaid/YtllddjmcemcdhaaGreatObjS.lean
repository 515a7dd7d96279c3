
/-
  What is proved: contracts of the model's l8Object and ObjectFinger. No condition beside what each theorem states.
-/
import Derived.Test.YtllddjmcemcdhaaGreatObjG
namespace Go.Proofs.YtllddjmcemcdhaaGreat
open Go.ChangeShapes Go.WideShapes Go.ChangeAt Go.RowKit
set_option maxRecDepth 100000

set_option maxHeartbeats 16000000 in
theorem sl8Object (s : Value) (T : List Int) (tb to tc : Nat) (o : ObjectD) (pa : Option Addr) (pc : Nat) (w : World) (hs : s.cells.size = 5 ∧ ∃ c, s = .agg c ∧ c.size = 5) (hT : ∀ j, j < T.length → tb < w.heap.size ∧ w.cell? ⟨tb, to + j, none⟩ = some (.int .i64 (T.getD j 0))) (hot : OT T.length o) (hp : Rows paramS Any w pa o.fParams) :
    Calls Tryz.prog 18 #[s, .slice (some ⟨tb, to, none⟩) T.length tc, .agg #[.string o.fName, .int .i64 o.fKind, .int .i64 o.fMark, .int .i64 o.fType, .int .i64 o.fValue, .slice pa o.fParams.length pc]] w fun e w' => e = .returned (.int .i64 (objZ T o)) ∧ Below w.heap.size w w' := by
  obtain ⟨_, sc, rfl, hsc⟩ := hs
  have b0 := ((Below.refl w.heap.size w).alloc (Nat.le_refl _) (.cells sc 35)).alloc (by simp) (.cells #[.string o.fName, .int .i64 o.fKind, .int .i64 o.fMark, .int .i64 o.fType, .int .i64 o.fValue, .slice pa o.fParams.length pc] 52)
  have X0 := Lib.hid (show Box ((w.alloc (.cells sc 35)).alloc (.cells #[.string o.fName, .int .i64 o.fKind, .int .i64 o.fMark, .int .i64 o.fType, .int .i64 o.fValue, .slice pa o.fParams.length pc] 52)).drew (w.heap.size + 1) 52 #[.string o.fName, .int .i64 o.fKind, .int .i64 o.fMark, .int .i64 o.fType, .int .i64 o.fValue, .slice pa o.fParams.length pc] from (Box.new' _ _ _ (by simp)).drewN 1)
  have B0 := Lib.hid (show Below w.heap.size w ((w.alloc (.cells sc 35)).alloc (.cells #[.string o.fName, .int .i64 o.fKind, .int .i64 o.fMark, .int .i64 o.fType, .int .i64 o.fValue, .slice pa o.fParams.length pc] 52)).drew from belowN b0 1)
  have HOT := Lib.hid hot
  have HP := Lib.hid hp
  have HTT := Lib.hid hT
  have HTx := Lib.hid (fun s (hs : s.size ≤ 200) W => sl8Text s W hs)
  have Hz := Lib.hid (show objZ T o = mixL ([textZ o.fName, o.fKind, o.fMark, o.fValue, tyZ T o.fType] ++ parsZ T o.fParams) from rfl)
  obtain ⟨objZ0, hz0⟩ : ∃ z, z = objZ T o := ⟨_, rfl⟩
  rw [← hz0] at Hz ⊢
  have hty := hot.type
  have hfew := hot.few
  clear hT hot hp hz0 b0
  go_enter Tryz.func18, Tryz.ntmps18
  go_wp2_with fail
  --OS<
  refine wp_region_held_drew (S := fun w' => w'.cell? ⟨w.heap.size + 1, 0, none⟩ = some (.string o.fName) ∧ w'.cell? ⟨w.heap.size + 1, 1, none⟩ = some (.int .i64 o.fKind) ∧ w'.cell? ⟨w.heap.size + 1, 2, none⟩ = some (.int .i64 o.fMark) ∧ w'.cell? ⟨w.heap.size + 1, 3, none⟩ = some (.int .i64 o.fType) ∧ w'.cell? ⟨w.heap.size + 1, 4, none⟩ = some (.int .i64 o.fValue) ∧ w'.cell? ⟨w.heap.size + 1, 5, none⟩ = some (.slice pa o.fParams.length pc)) (by kernel_rfl) ?_ (fun hHeld => ?_)
  · try dsimp only
    exact ⟨X0.out.cell 0, X0.out.cell 1, X0.out.cell 2, X0.out.cell 3, X0.out.cell 4, X0.out.cell 5⟩
  refine wpAnyH_take (i := 0) (oi := { dst := some 11, op := Op.fieldAddr 52 (Operand.tmp 5) 0, type := 0, pos := "l8_fingers.go:58", after := #[], guard := none }) (v := .pointer (some ⟨w.heap.size + 1, 0, none⟩)) rfl (by kernel_rfl) (by kernel_rfl) (by kernel_rfl) (fun _ _ _ h => h) (Or.inl ⟨by rfl, ?_⟩) (by assumption) ?_
  · intro wS hSw
    try dsimp only at hSw
    go_simp
  try simp only [Act.put, List.setIfInBounds_toArray, List.set_cons_zero, List.set_cons_succ]
  refine wpAnyH_take (i := 1) (oi := { dst := some 12, op := Op.load 9 (Operand.tmp 11), type := 9, pos := "l8_fingers.go:58", after := #[{ on := 0, ground := Ground.data }], guard := none }) (v := .string o.fName) rfl (by kernel_rfl) (by kernel_rfl) (by kernel_rfl) (fun _ _ _ h => h) (Or.inl ⟨by rfl, ?_⟩) (by assumption) ?_
  · intro wS hSw
    try dsimp only at hSw
    go_simp
  try simp only [Act.put, List.setIfInBounds_toArray, List.set_cons_zero, List.set_cons_succ]
  refine wpAnyH_take (i := 3) (oi := { dst := some 14, op := Op.fieldAddr 52 (Operand.tmp 5) 1, type := 0, pos := "l8_fingers.go:58", after := #[], guard := none }) (v := .pointer (some ⟨w.heap.size + 1, 1, none⟩)) rfl (by kernel_rfl) (by kernel_rfl) (by kernel_rfl) (fun _ _ _ h => h) (Or.inl ⟨by rfl, ?_⟩) (by assumption) ?_
  · intro wS hSw
    try dsimp only at hSw
    go_simp
  try simp only [Act.put, List.setIfInBounds_toArray, List.set_cons_zero, List.set_cons_succ]
  refine wpAnyH_take (i := 4) (oi := { dst := some 15, op := Op.load 3 (Operand.tmp 14), type := 3, pos := "l8_fingers.go:58", after := #[{ on := 3, ground := Ground.data }], guard := none }) (v := .int .i64 o.fKind) rfl (by kernel_rfl) (by kernel_rfl) (by kernel_rfl) (fun _ _ _ h => h) (Or.inl ⟨by rfl, ?_⟩) (by assumption) ?_
  · intro wS hSw
    try dsimp only at hSw
    go_simp
  try simp only [Act.put, List.setIfInBounds_toArray, List.set_cons_zero, List.set_cons_succ]
  refine wpAnyH_take (i := 5) (oi := { dst := some 16, op := Op.fieldAddr 52 (Operand.tmp 5) 2, type := 0, pos := "l8_fingers.go:58", after := #[], guard := none }) (v := .pointer (some ⟨w.heap.size + 1, 2, none⟩)) rfl (by kernel_rfl) (by kernel_rfl) (by kernel_rfl) (fun _ _ _ h => h) (Or.inl ⟨by rfl, ?_⟩) (by assumption) ?_
  · intro wS hSw
    try dsimp only at hSw
    go_simp
  try simp only [Act.put, List.setIfInBounds_toArray, List.set_cons_zero, List.set_cons_succ]
  refine wpAnyH_take (i := 6) (oi := { dst := some 17, op := Op.load 3 (Operand.tmp 16), type := 3, pos := "l8_fingers.go:58", after := #[{ on := 5, ground := Ground.data }], guard := none }) (v := .int .i64 o.fMark) rfl (by kernel_rfl) (by kernel_rfl) (by kernel_rfl) (fun _ _ _ h => h) (Or.inl ⟨by rfl, ?_⟩) (by assumption) ?_
  · intro wS hSw
    try dsimp only at hSw
    go_simp
  try simp only [Act.put, List.setIfInBounds_toArray, List.set_cons_zero, List.set_cons_succ]
  refine wpAnyH_take (i := 7) (oi := { dst := some 18, op := Op.fieldAddr 52 (Operand.tmp 5) 4, type := 0, pos := "l8_fingers.go:58", after := #[], guard := none }) (v := .pointer (some ⟨w.heap.size + 1, 4, none⟩)) rfl (by kernel_rfl) (by kernel_rfl) (by kernel_rfl) (fun _ _ _ h => h) (Or.inl ⟨by rfl, ?_⟩) (by assumption) ?_
  · intro wS hSw
    try dsimp only at hSw
    go_simp
  try simp only [Act.put, List.setIfInBounds_toArray, List.set_cons_zero, List.set_cons_succ]
  refine wpAnyH_take (i := 8) (oi := { dst := some 19, op := Op.load 3 (Operand.tmp 18), type := 3, pos := "l8_fingers.go:58", after := #[{ on := 7, ground := Ground.data }], guard := none }) (v := .int .i64 o.fValue) rfl (by kernel_rfl) (by kernel_rfl) (by kernel_rfl) (fun _ _ _ h => h) (Or.inl ⟨by rfl, ?_⟩) (by assumption) ?_
  · intro wS hSw
    try dsimp only at hSw
    go_simp
  try simp only [Act.put, List.setIfInBounds_toArray, List.set_cons_zero, List.set_cons_succ]
  refine wpAnyH_ready (rs := [2]) (by kernel_rfl) (by simp) ?_
  refine AllReadyH.cons (o := { dst := some 13, op := Op.call { callee := Callee.value (Operand.func 44), args := #[Operand.tmp 12], argTypes := #[9] }, type := 3, pos := "l8_fingers.go:58", after := #[{ on := 1, ground := Ground.data }], guard := none }) rfl (fun K hK => ?_) AllReadyH.nil
  go_simp
  go_at_call 44
  refine (HTx.out _ HOT.out.name _).mono ?_
  rintro e w1 ⟨rfl, hb1⟩
  have X1 := Lib.hid (X0.out.below hb1 X0.out.lt)
  have B1 := Lib.hid (B0.out.trans (hb1.mono B0.out.size))
  clear hb1
  refine hK.out _ _ ?_ (fun hHeld2 => ?_)
  · try dsimp only
    exact ⟨X1.out.cell 0, X1.out.cell 1, X1.out.cell 2, X1.out.cell 3, X1.out.cell 4, X1.out.cell 5⟩
  clear hK K hHeld
  have hHeld := hHeld2
  clear hHeld2
  try simp only [Act.put, List.setIfInBounds_toArray, List.set_cons_zero, List.set_cons_succ]
  refine wpAnyH_ready (rs := [9]) (by kernel_rfl) (by simp) ?_
  refine AllReadyH.cons (o := { dst := some 20, op := Op.buildSlice 48 5 #[(0, Operand.tmp 13), (1, Operand.tmp 15), (2, Operand.tmp 17), (3, Operand.tmp 19), (4, Operand.const (Value.int IntKind.i64 5))], type := 48, pos := "l8_fingers.go:58", after := #[{ on := 2, ground := Ground.data }, { on := 4, ground := Ground.data }, { on := 6, ground := Ground.data }, { on := 8, ground := Ground.data }], guard := none }) rfl (fun K hK => ?_) AllReadyH.nil
  go_simp
  have N2 := Lib.hid (Box.new w1 3 #[.int .i64 (textZ o.fName), .int .i64 o.fKind, .int .i64 o.fMark, .int .i64 o.fValue, .int .i64 5])
  have X2 := Lib.hid (X1.out.alloc (.cells #[.int .i64 (textZ o.fName), .int .i64 o.fKind, .int .i64 o.fMark, .int .i64 o.fValue, .int .i64 5] 3))
  have B2 := Lib.hid (B1.out.alloc B1.out.size (.cells #[.int .i64 (textZ o.fName), .int .i64 o.fKind, .int .i64 o.fMark, .int .i64 o.fValue, .int .i64 5] 3))
  refine hK.out _ _ ?_ (fun hHeld2 => ?_)
  · try dsimp only
    exact ⟨X2.out.cell 0, X2.out.cell 1, X2.out.cell 2, X2.out.cell 3, X2.out.cell 4, X2.out.cell 5⟩
  clear hK K hHeld
  have hHeld := hHeld2
  clear hHeld2
  try simp only [Act.put, List.setIfInBounds_toArray, List.set_cons_zero, List.set_cons_succ]
  refine wpAnyH_take (i := 10) (oi := { dst := some 7, op := Op.assign (Operand.tmp 20), type := 48, pos := "l8_fingers.go:58", after := #[{ on := 9, ground := Ground.data }, { on := 2, ground := Ground.chain }, { on := 0, ground := Ground.phase }, { on := 1, ground := Ground.phase }, { on := 2, ground := Ground.phase }, { on := 3, ground := Ground.phase }, { on := 4, ground := Ground.phase }, { on := 5, ground := Ground.phase }, { on := 6, ground := Ground.phase }, { on := 7, ground := Ground.phase }, { on := 8, ground := Ground.phase }, { on := 9, ground := Ground.phase }], guard := none }) (v := .slice (some ⟨w1.heap.size, 0, none⟩) 5 5) rfl (by kernel_rfl) (by kernel_rfl) (by kernel_rfl) (fun _ _ _ h => h) (Or.inl ⟨by rfl, ?_⟩) (by assumption) ?_
  · intro wS hSw
    try dsimp only at hSw
    go_simp
  try simp only [Act.put, List.setIfInBounds_toArray, List.set_cons_zero, List.set_cons_succ]
  refine wpAnyH_done (by kernel_rfl) ?_ _
  --OS>
  have x3 := X2.out.cell 3
  have x5 := X2.out.cell 5
  simp at x3 x5
  have n4f := N2.out.free 4
  have n4 := N2.out.cell 4
  simp at n4
  have hw1 : w.heap.size + 2 ≤ w1.heap.size := by have := X1.out.lt; omega
  obtain ⟨BL, hBL⟩ : ∃ x, x = [textZ o.fName, o.fKind, o.fMark, o.fValue, tyZ T o.fType] := ⟨_, rfl⟩
  have hbl5 : BL.length = 5 := by rw [hBL]; rfl
  have HBL := Lib.hid hBL
  rw [← hBL] at Hz
  by_cases hneg : o.fType = -1
  case' pos =>
    have O3 := Lib.hid (show OwnInts (w1.alloc (.cells #[.int .i64 (textZ o.fName), .int .i64 o.fKind, .int .i64 o.fMark, .int .i64 o.fValue, .int .i64 5] 3)) (w.heap.size + 2) (.slice (some ⟨w1.heap.size, 0, none⟩) 5 5) BL by
      rw [HBL.out, show tyZ T o.fType = 5 by unfold tyZ; rw [if_pos hneg]]
      exact OwnInts.ofBox (l := [textZ o.fName, o.fKind, o.fMark, o.fValue, 5]) N2.out hw1 (by unfold maxLen; simp))
    have B3 := Lib.hid B2.out
    have hwz : w.heap.size + 2 ≤ (w1.alloc (.cells #[.int .i64 (textZ o.fName), .int .i64 o.fKind, .int .i64 o.fMark, .int .i64 o.fValue, .int .i64 5] 3)).heap.size := by simp; omega
    have hge : ¬ 0 ≤ o.fType := by omega
    clear hneg hty N2 hBL
    generalize w1.alloc (.cells #[.int .i64 (textZ o.fName), .int .i64 o.fKind, .int .i64 o.fMark, .int .i64 o.fValue, .int .i64 5] 3) = wz at *
    generalize w1.heap.size = nb at *
    go_wp2_with fail
  case' neg =>
    have hty2 : 0 ≤ o.fType ∧ o.fType < (T.length : Int) := by omega
    have ht2 : o.fType.toNat < T.length := by omega
    have et := (B2.out.cell (p := ⟨tb, to + o.fType.toNat, none⟩) (HTT.out _ ht2).1).trans (HTT.out _ ht2).2
    have O3 := Lib.hid (show OwnInts (w1.alloc (.cells #[.int .i64 (textZ o.fName), .int .i64 o.fKind, .int .i64 o.fMark, .int .i64 o.fValue, .int .i64 (T.getD o.fType.toNat 0)] 3)) (w.heap.size + 2) (.slice (some ⟨w1.heap.size, 0, none⟩) 5 5) BL by
      rw [HBL.out, show tyZ T o.fType = T.getD o.fType.toNat 0 by unfold tyZ; rw [if_neg hneg]]
      exact OwnInts.ofBox (l := [textZ o.fName, o.fKind, o.fMark, o.fValue, T.getD o.fType.toNat 0]) (Box.new w1 _ _) hw1 (by unfold maxLen; simp))
    have B3 := Lib.hid (B1.out.alloc B1.out.size (.cells #[.int .i64 (textZ o.fName), .int .i64 o.fKind, .int .i64 o.fMark, .int .i64 o.fValue, .int .i64 (T.getD o.fType.toNat 0)] 3))
    have hwz : w.heap.size + 2 ≤ (w1.alloc (.cells #[.int .i64 (textZ o.fName), .int .i64 o.fKind, .int .i64 o.fMark, .int .i64 o.fValue, .int .i64 (T.getD o.fType.toNat 0)] 3)).heap.size := by simp; omega
    have y5 : (w1.alloc (.cells #[.int .i64 (textZ o.fName), .int .i64 o.fKind, .int .i64 o.fMark, .int .i64 o.fValue, .int .i64 (T.getD o.fType.toNat 0)] 3)).cell? ⟨w.heap.size + 1, 5, none⟩ = some (.slice pa o.fParams.length pc) := (X1.out.alloc (.cells #[.int .i64 (textZ o.fName), .int .i64 o.fKind, .int .i64 o.fMark, .int .i64 o.fValue, .int .i64 (T.getD o.fType.toNat 0)] 3)).cell 5
    have t1 : 0 ≤ o.fType := hty2.1
    have t2 : o.fType < (T.length : Int) := hty2.2
    generalize T.getD o.fType.toNat 0 = tv at *
    clear hneg hty hty2 N2 hBL
    go_wp2_with fail
    clear et y5 t1 t2 n4 n4f
    generalize w1.alloc (.cells #[.int .i64 (textZ o.fName), .int .i64 o.fKind, .int .i64 o.fMark, .int .i64 o.fValue, .int .i64 tv] 3) = wz at *
    generalize w1.heap.size = nb at *
  all_goals
    clear x3 X0 X1 X2 B0 B1 B2
    try clear x5
    go_loopw [7, 34] (fun v i wr => ∃ k : Nat, i = .int .i64 k ∧ k ≤ o.fParams.length ∧ OwnInts wr (w.heap.size + 2) v (BL ++ parsZ T (o.fParams.take k)) ∧ Below w.heap.size w wr ∧ w.heap.size + 2 ≤ wr.heap.size) (fun _ i _ => o.fParams.length - (intOf i).toNat)
    case atStart => exact ⟨0, rfl, by omega, by rw [parsZ_zero, List.append_nil]; exact O3.out, B3.out, hwz⟩
    case round =>
      obtain ⟨V5, hV5⟩ : ∃ x, x = u7 := ⟨_, rfl⟩
      subst hV5
      obtain ⟨wo, hwo⟩ : ∃ y, y = wr := ⟨_, rfl⟩
      subst hwo
      obtain ⟨k, rfl, hk, hown, hbel, hsz⟩ := hrel
      by_cases hlt : k < o.fParams.length
      · obtain ⟨b, po, cs, hpa, _, hb1, hc1, hat⟩ := HP.out k hlt
        obtain rfl : cs = [.string o.fParams[k].fName, .bool o.fParams[k].fByVar, .int .i64 o.fParams[k].fType] := hat
        subst hpa
        have e0 := (hbel.cell (p := ⟨b, po + k * 3 + 0, none⟩) hb1).trans (hc1 0 (by decide))
        have e1 := (hbel.cell (p := ⟨b, po + k * 3 + 1, none⟩) hb1).trans (hc1 1 (by decide))
        have e2 := (hbel.cell (p := ⟨b, po + k * 3 + 2, none⟩) hb1).trans (hc1 2 (by decide))
        simp at e0 e1 e2
        have HQ := Lib.hid (HOT.out.params k hlt)
        have Hnx := Lib.hid (show BL ++ parsZ T (o.fParams.take (k + 1)) = BL ++ parsZ T (o.fParams.take k) ++ parZ T o.fParams[k] by rw [parsZ_next T hlt, List.append_assoc])
        obtain ⟨na, nn, nc, hform⟩ := hown.form
        subst hform
        obtain ⟨NL, hNL⟩ : ∃ x, x = BL ++ parsZ T (o.fParams.take k) := ⟨_, rfl⟩
        have hnl : NL.length ≤ 17 := by rw [hNL, List.length_append, hbl5, parsZ_len, List.length_take]; omega
        rw [← hNL] at hown Hnx
        have hw2 : w.heap.size + 2 ≤ w.heap.size + 2 := Nat.le_refl _
        generalize o.fParams[k] = q at *
        obtain ⟨tq, htq⟩ : ∃ z, z = T.getD q.fType.toNat 0 := ⟨_, rfl⟩
        have hqt : q.fType.toNat < T.length := by have := HQ.out.2; omega
        have htyq : tyZ T q.fType = tq := by unfold tyZ; rw [if_neg (by have := HQ.out.2.1; omega), htq]
        have CB0 := (hbel.cell (p := ⟨tb, to + q.fType.toNat, none⟩) (HTT.out _ hqt).1).trans (HTT.out _ hqt).2
        rw [← htq] at CB0
        have htb := (HTT.out _ hqt).1
        have j1 : 0 ≤ q.fType := HQ.out.2.1
        have j2 : q.fType < (T.length : Int) := HQ.out.2.2
        have nlo := World.ownsRow.lt hown
        have htb2 : (Value.slice na nn nc).ownBlock ≠ some tb := fun e => by have := (nlo tb e).1; omega
        have hnyb : ∀ k, (Value.slice na nn nc).ownBlock = some k → k = wo.heap.size → False := fun k hk e => by have := (nlo k hk).2; omega
        cases hbv : q.fByVar
        · rw [hbv] at e1
          have HPZ := Lib.hid (show parZ T q = [textZ q.fName, 0, tq] by unfold parZ; rw [hbv, htyq]; rfl)
          have hlen4 : NL.length + [textZ q.fName, (0 : Int), tq].length ≤ 1048577 + 1048576 := by have : [textZ q.fName, (0 : Int), tq].length = 3 := rfl; omega
          have hba := (Below.refl wo.heap.size wo).alloc (Nat.le_refl _) (.cells #[.string q.fName, .bool false, .int .i64 q.fType] 106)
          have XB := Lib.hid (show Box (wo.alloc (.cells #[.string q.fName, .bool false, .int .i64 q.fType] 106)).drew wo.heap.size 106 #[.string q.fName, .bool false, .int .i64 q.fType] from (Box.new wo _ _).drewN 1)
          have BB := Lib.hid (show Below w.heap.size w (wo.alloc (.cells #[.string q.fName, .bool false, .int .i64 q.fType] 106)).drew from belowN (hbel.alloc hbel.size _) 1)
          have NB := Lib.hid (show OwnInts (wo.alloc (.cells #[.string q.fName, .bool false, .int .i64 q.fType] 106)).drew (w.heap.size + 2) (.slice na nn nc) NL from (hown.below hba).drew1)
          have CB := Lib.hid (show (wo.alloc (.cells #[.string q.fName, .bool false, .int .i64 q.fType] 106)).drew.cell? ⟨tb, to + q.fType.toNat, none⟩ = some (.int .i64 tq) from cellKeep (belowN hba 1) CB0)
          have SB := Lib.hid (show w.heap.size + 2 ≤ (wo.alloc (.cells #[.string q.fName, .bool false, .int .i64 q.fType] 106)).drew.heap.size from Nat.le_trans hsz (by simp [World.drew]))
          clear hown hbel hc1 hba CB0 htq htyq nlo hbv
          go_wp2_with fail
          generalize wo.alloc (.cells #[.string q.fName, .bool false, .int .i64 q.fType] 106) = wq at *
          --OU<
          refine wp_region_held_drew (S := fun w' => w'.cell? ⟨wo.heap.size, 0, none⟩ = some (.string q.fName) ∧ w'.cell? ⟨wo.heap.size, 2, none⟩ = some (.int .i64 q.fType) ∧ w'.cell? ⟨tb, to + q.fType.toNat, none⟩ = some (.int .i64 tq)) (by kernel_rfl) ?_ (fun hHeld => ?_)
          · try dsimp only
            exact ⟨XB.out.cell 0, XB.out.cell 2, CB.out⟩
          refine wpAnyH_take (i := 0) (oi := { dst := some 40, op := Op.move (Operand.tmp 7), type := 48, pos := "l8_fingers.go:67", after := #[], guard := none }) (v := .slice na nn nc) rfl (by kernel_rfl) (by kernel_rfl) (by kernel_rfl) (fun _ _ _ h => h) (Or.inl ⟨by rfl, ?_⟩) (by assumption) ?_
          · intro wS hSw
            try dsimp only at hSw
            go_simp
          try simp only [Act.put, List.setIfInBounds_toArray, List.set_cons_zero, List.set_cons_succ]
          refine wpAnyH_take (i := 1) (oi := { dst := some 41, op := Op.fieldAddr 106 (Operand.tmp 9) 0, type := 0, pos := "l8_fingers.go:67", after := #[], guard := none }) (v := .pointer (some ⟨wo.heap.size, 0, none⟩)) rfl (by kernel_rfl) (by kernel_rfl) (by kernel_rfl) (fun _ _ _ h => h) (Or.inl ⟨by rfl, ?_⟩) (by assumption) ?_
          · intro wS hSw
            try dsimp only at hSw
            go_simp
          try simp only [Act.put, List.setIfInBounds_toArray, List.set_cons_zero, List.set_cons_succ]
          refine wpAnyH_take (i := 2) (oi := { dst := some 42, op := Op.load 9 (Operand.tmp 41), type := 9, pos := "l8_fingers.go:67", after := #[{ on := 1, ground := Ground.data }], guard := none }) (v := .string q.fName) rfl (by kernel_rfl) (by kernel_rfl) (by kernel_rfl) (fun _ _ _ h => h) (Or.inl ⟨by rfl, ?_⟩) (by assumption) ?_
          · intro wS hSw
            try dsimp only at hSw
            go_simp
          try simp only [Act.put, List.setIfInBounds_toArray, List.set_cons_zero, List.set_cons_succ]
          refine wpAnyH_take (i := 4) (oi := { dst := some 44, op := Op.move (Operand.tmp 10), type := 3, pos := "l8_fingers.go:67", after := #[], guard := none }) (v := .int .i64 0) rfl (by kernel_rfl) (by kernel_rfl) (by kernel_rfl) (fun _ _ _ h => h) (Or.inl ⟨by rfl, ?_⟩) (by assumption) ?_
          · intro wS hSw
            try dsimp only at hSw
            go_simp
          try simp only [Act.put, List.setIfInBounds_toArray, List.set_cons_zero, List.set_cons_succ]
          refine wpAnyH_take (i := 5) (oi := { dst := some 45, op := Op.move (Operand.tmp 1), type := 48, pos := "l8_fingers.go:67", after := #[], guard := none }) (v := .slice (some ⟨tb, to, none⟩) T.length tc) rfl (by kernel_rfl) (by kernel_rfl) (by kernel_rfl) (fun _ _ _ h => h) (Or.inl ⟨by rfl, ?_⟩) (by assumption) ?_
          · intro wS hSw
            try dsimp only at hSw
            go_simp
          try simp only [Act.put, List.setIfInBounds_toArray, List.set_cons_zero, List.set_cons_succ]
          refine wpAnyH_take (i := 6) (oi := { dst := some 46, op := Op.fieldAddr 106 (Operand.tmp 9) 2, type := 0, pos := "l8_fingers.go:67", after := #[], guard := none }) (v := .pointer (some ⟨wo.heap.size, 2, none⟩)) rfl (by kernel_rfl) (by kernel_rfl) (by kernel_rfl) (fun _ _ _ h => h) (Or.inl ⟨by rfl, ?_⟩) (by assumption) ?_
          · intro wS hSw
            try dsimp only at hSw
            go_simp
          try simp only [Act.put, List.setIfInBounds_toArray, List.set_cons_zero, List.set_cons_succ]
          refine wpAnyH_take (i := 7) (oi := { dst := some 47, op := Op.load 3 (Operand.tmp 46), type := 3, pos := "l8_fingers.go:67", after := #[{ on := 6, ground := Ground.data }], guard := none }) (v := .int .i64 q.fType) rfl (by kernel_rfl) (by kernel_rfl) (by kernel_rfl) (fun _ _ _ h => h) (Or.inl ⟨by rfl, ?_⟩) (by assumption) ?_
          · intro wS hSw
            try dsimp only at hSw
            go_simp
          try simp only [Act.put, List.setIfInBounds_toArray, List.set_cons_zero, List.set_cons_succ]
          refine wpAnyH_take (i := 8) (oi := { dst := some 48, op := Op.indexAddr 48 (Operand.tmp 45) (Operand.tmp 47), type := 0, pos := "l8_fingers.go:67", after := #[{ on := 5, ground := Ground.data }, { on := 7, ground := Ground.data }], guard := none }) (v := .pointer (some ⟨tb, to + q.fType.toNat, none⟩)) rfl (by kernel_rfl) (by kernel_rfl) (by kernel_rfl) (fun _ _ _ h => h) (Or.inl ⟨by rfl, ?_⟩) (by assumption) ?_
          · intro wS hSw
            try dsimp only at hSw
            go_simp
          try simp only [Act.put, List.setIfInBounds_toArray, List.set_cons_zero, List.set_cons_succ]
          refine wpAnyH_take (i := 9) (oi := { dst := some 49, op := Op.load 3 (Operand.tmp 48), type := 3, pos := "l8_fingers.go:67", after := #[{ on := 8, ground := Ground.data }], guard := none }) (v := .int .i64 tq) rfl (by kernel_rfl) (by kernel_rfl) (by kernel_rfl) (fun _ _ _ h => h) (Or.inl ⟨by rfl, ?_⟩) (by assumption) ?_
          · intro wS hSw
            try dsimp only at hSw
            go_simp
          try simp only [Act.put, List.setIfInBounds_toArray, List.set_cons_zero, List.set_cons_succ]
          refine wpAnyH_ready (rs := [3]) (by kernel_rfl) (by simp) ?_
          refine AllReadyH.cons (o := { dst := some 43, op := Op.call { callee := Callee.value (Operand.func 44), args := #[Operand.tmp 42], argTypes := #[9] }, type := 3, pos := "l8_fingers.go:67", after := #[{ on := 2, ground := Ground.data }], guard := none }) rfl (fun K hK => ?_) AllReadyH.nil
          go_simp
          go_at_call 44
          refine (HTx.out _ HQ.out.1 _).mono ?_
          rintro e w1 ⟨rfl, hb1⟩
          have X1 := Lib.hid (XB.out.below hb1 XB.out.lt)
          have B1 := Lib.hid (BB.out.trans (hb1.mono BB.out.size))
          have N1 := Lib.hid (NB.out.below hb1)
          have C1 := Lib.hid (cellKeep hb1 CB.out)
          have S1 := Lib.hid (Nat.le_trans SB.out hb1.size)
          clear hb1
          refine hK.out _ _ ?_ (fun hHeld2 => ?_)
          · try dsimp only
            exact ⟨X1.out.cell 0, X1.out.cell 2, C1.out⟩
          clear hK K hHeld
          have hHeld := hHeld2
          clear hHeld2
          try simp only [Act.put, List.setIfInBounds_toArray, List.set_cons_zero, List.set_cons_succ]
          refine wpAnyH_ready (rs := [10]) (by kernel_rfl) (by simp) ?_
          refine AllReadyH.cons (o := { dst := some 50, op := Op.buildSlice 48 3 #[(0, Operand.tmp 43), (1, Operand.tmp 44), (2, Operand.tmp 49)], type := 48, pos := "l8_fingers.go:67", after := #[{ on := 3, ground := Ground.data }, { on := 4, ground := Ground.data }, { on := 9, ground := Ground.data }], guard := none }) rfl (fun K hK => ?_) AllReadyH.nil
          go_simp
          have N4 := Lib.hid (Box.new w1 3 #[.int .i64 (textZ q.fName), .int .i64 0, .int .i64 tq])
          have X4 := Lib.hid (X1.out.alloc (.cells #[.int .i64 (textZ q.fName), .int .i64 0, .int .i64 tq] 3))
          have bb4 := (Below.refl w1.heap.size w1).alloc (Nat.le_refl _) (.cells #[.int .i64 (textZ q.fName), .int .i64 0, .int .i64 tq] 3)
          have B4 := Lib.hid (B1.out.trans (bb4.mono B1.out.size))
          have M4 := Lib.hid (N1.out.below bb4)
          have C4 := Lib.hid (cellKeep bb4 C1.out)
          have S4 := Lib.hid (Nat.le_trans S1.out bb4.size)
          have nlt := World.ownsRow.lt M4.out
          clear bb4
          refine hK.out _ _ ?_ (fun hHeld2 => ?_)
          · try dsimp only
            exact ⟨X4.out.cell 0, X4.out.cell 2, C4.out⟩
          clear hK K hHeld
          have hHeld := hHeld2
          clear hHeld2
          try simp only [Act.put, List.setIfInBounds_toArray, List.set_cons_zero, List.set_cons_succ]
          refine wpAnyH_ready (rs := [11]) (by kernel_rfl) (by simp) ?_
          refine AllReadyH.cons (o := { dst := some 51, op := Op.call { callee := Callee.builtin Builtin.append, args := #[Operand.tmp 40, Operand.tmp 50], argTypes := #[48, 48] }, type := 48, pos := "l8_fingers.go:67", after := #[{ on := 0, ground := Ground.data }, { on := 10, ground := Ground.data }, { on := 3, ground := Ground.chain }], guard := none }) rfl (fun K hK => ?_) AllReadyH.nil
          refine step_pushIntsV rfl _ _ rfl (w.heap.size + 2) _ (.slice na nn nc) NL rfl M4.out [textZ q.fName, (0 : Int), tq] _ _ _ rfl rfl N4.out (by simp) hlen4 S4.out ?_
          intro g5 c5 w5 hown5 hg5 hne5
          have X5 := Lib.hid (box_grown X4.out hg5 (fun k hk e => hnyb k hk e))
          have C5 := Lib.hid (hg5.cell (a := ⟨tb, to + q.fType.toNat, none⟩) C4.out (fun e => htb2 e.symm))
          have B5 := Lib.hid (B4.out.grown hg5 B4.out.size (fun k hk => by have := (nlt k hk).1; omega))
          have S5 := Lib.hid (Nat.le_trans S4.out hg5.size)
          have O5 := Lib.hid hown5
          clear hown5 hg5 hne5
          refine hK.out _ _ ?_ (fun hHeld2 => ?_)
          · try dsimp only
            exact ⟨X5.out.cell 0, X5.out.cell 2, C5.out⟩
          clear hK K hHeld
          have hHeld := hHeld2
          clear hHeld2
          try simp only [Act.put, List.setIfInBounds_toArray, List.set_cons_zero, List.set_cons_succ]
          refine wpAnyH_take (i := 12) (oi := { dst := some 7, op := Op.assign (Operand.tmp 51), type := 48, pos := "l8_fingers.go:67", after := #[{ on := 11, ground := Ground.data }, { on := 11, ground := Ground.chain }, { on := 0, ground := Ground.phase }, { on := 1, ground := Ground.phase }, { on := 2, ground := Ground.phase }, { on := 3, ground := Ground.phase }, { on := 4, ground := Ground.phase }, { on := 5, ground := Ground.phase }, { on := 6, ground := Ground.phase }, { on := 7, ground := Ground.phase }, { on := 8, ground := Ground.phase }, { on := 9, ground := Ground.phase }, { on := 10, ground := Ground.phase }, { on := 11, ground := Ground.phase }], guard := none }) (v := .slice (some ⟨g5, 0, none⟩) (NL.length + [textZ q.fName, (0 : Int), tq].length) c5) rfl (by kernel_rfl) (by kernel_rfl) (by kernel_rfl) (fun _ _ _ h => h) (Or.inl ⟨by rfl, ?_⟩) (by assumption) ?_
          · intro wS hSw
            try dsimp only at hSw
            go_simp
          try simp only [Act.put, List.setIfInBounds_toArray, List.set_cons_zero, List.set_cons_succ]
          refine wpAnyH_done (by kernel_rfl) ?_ _
          --OU>
          go_wp2_with fail
          exact ⟨⟨k + 1, by congr 1, by omega, by rw [Hnx.out, HPZ.out]; exact O5.out, B5.out, S5.out⟩, by simp [intOf]; omega⟩
        · rw [hbv] at e1
          have HPZ := Lib.hid (show parZ T q = [textZ q.fName, 1, tq] by unfold parZ; rw [hbv, htyq]; rfl)
          have hlen4 : NL.length + [textZ q.fName, (1 : Int), tq].length ≤ 1048577 + 1048576 := by have : [textZ q.fName, (1 : Int), tq].length = 3 := rfl; omega
          have hba := (Below.refl wo.heap.size wo).alloc (Nat.le_refl _) (.cells #[.string q.fName, .bool true, .int .i64 q.fType] 106)
          have XB := Lib.hid (show Box (wo.alloc (.cells #[.string q.fName, .bool true, .int .i64 q.fType] 106)).drew wo.heap.size 106 #[.string q.fName, .bool true, .int .i64 q.fType] from (Box.new wo _ _).drewN 1)
          have BB := Lib.hid (show Below w.heap.size w (wo.alloc (.cells #[.string q.fName, .bool true, .int .i64 q.fType] 106)).drew from belowN (hbel.alloc hbel.size _) 1)
          have NB := Lib.hid (show OwnInts (wo.alloc (.cells #[.string q.fName, .bool true, .int .i64 q.fType] 106)).drew (w.heap.size + 2) (.slice na nn nc) NL from (hown.below hba).drew1)
          have CB := Lib.hid (show (wo.alloc (.cells #[.string q.fName, .bool true, .int .i64 q.fType] 106)).drew.cell? ⟨tb, to + q.fType.toNat, none⟩ = some (.int .i64 tq) from cellKeep (belowN hba 1) CB0)
          have SB := Lib.hid (show w.heap.size + 2 ≤ (wo.alloc (.cells #[.string q.fName, .bool true, .int .i64 q.fType] 106)).drew.heap.size from Nat.le_trans hsz (by simp [World.drew]))
          clear hown hbel hc1 hba CB0 htq htyq nlo hbv
          go_wp2_with fail
          generalize wo.alloc (.cells #[.string q.fName, .bool true, .int .i64 q.fType] 106) = wq at *
          --OT<
          refine wp_region_held_drew (S := fun w' => w'.cell? ⟨wo.heap.size, 0, none⟩ = some (.string q.fName) ∧ w'.cell? ⟨wo.heap.size, 2, none⟩ = some (.int .i64 q.fType) ∧ w'.cell? ⟨tb, to + q.fType.toNat, none⟩ = some (.int .i64 tq)) (by kernel_rfl) ?_ (fun hHeld => ?_)
          · try dsimp only
            exact ⟨XB.out.cell 0, XB.out.cell 2, CB.out⟩
          refine wpAnyH_take (i := 0) (oi := { dst := some 40, op := Op.move (Operand.tmp 7), type := 48, pos := "l8_fingers.go:67", after := #[], guard := none }) (v := .slice na nn nc) rfl (by kernel_rfl) (by kernel_rfl) (by kernel_rfl) (fun _ _ _ h => h) (Or.inl ⟨by rfl, ?_⟩) (by assumption) ?_
          · intro wS hSw
            try dsimp only at hSw
            go_simp
          try simp only [Act.put, List.setIfInBounds_toArray, List.set_cons_zero, List.set_cons_succ]
          refine wpAnyH_take (i := 1) (oi := { dst := some 41, op := Op.fieldAddr 106 (Operand.tmp 9) 0, type := 0, pos := "l8_fingers.go:67", after := #[], guard := none }) (v := .pointer (some ⟨wo.heap.size, 0, none⟩)) rfl (by kernel_rfl) (by kernel_rfl) (by kernel_rfl) (fun _ _ _ h => h) (Or.inl ⟨by rfl, ?_⟩) (by assumption) ?_
          · intro wS hSw
            try dsimp only at hSw
            go_simp
          try simp only [Act.put, List.setIfInBounds_toArray, List.set_cons_zero, List.set_cons_succ]
          refine wpAnyH_take (i := 2) (oi := { dst := some 42, op := Op.load 9 (Operand.tmp 41), type := 9, pos := "l8_fingers.go:67", after := #[{ on := 1, ground := Ground.data }], guard := none }) (v := .string q.fName) rfl (by kernel_rfl) (by kernel_rfl) (by kernel_rfl) (fun _ _ _ h => h) (Or.inl ⟨by rfl, ?_⟩) (by assumption) ?_
          · intro wS hSw
            try dsimp only at hSw
            go_simp
          try simp only [Act.put, List.setIfInBounds_toArray, List.set_cons_zero, List.set_cons_succ]
          refine wpAnyH_take (i := 4) (oi := { dst := some 44, op := Op.move (Operand.tmp 10), type := 3, pos := "l8_fingers.go:67", after := #[], guard := none }) (v := .int .i64 1) rfl (by kernel_rfl) (by kernel_rfl) (by kernel_rfl) (fun _ _ _ h => h) (Or.inl ⟨by rfl, ?_⟩) (by assumption) ?_
          · intro wS hSw
            try dsimp only at hSw
            go_simp
          try simp only [Act.put, List.setIfInBounds_toArray, List.set_cons_zero, List.set_cons_succ]
          refine wpAnyH_take (i := 5) (oi := { dst := some 45, op := Op.move (Operand.tmp 1), type := 48, pos := "l8_fingers.go:67", after := #[], guard := none }) (v := .slice (some ⟨tb, to, none⟩) T.length tc) rfl (by kernel_rfl) (by kernel_rfl) (by kernel_rfl) (fun _ _ _ h => h) (Or.inl ⟨by rfl, ?_⟩) (by assumption) ?_
          · intro wS hSw
            try dsimp only at hSw
            go_simp
          try simp only [Act.put, List.setIfInBounds_toArray, List.set_cons_zero, List.set_cons_succ]
          refine wpAnyH_take (i := 6) (oi := { dst := some 46, op := Op.fieldAddr 106 (Operand.tmp 9) 2, type := 0, pos := "l8_fingers.go:67", after := #[], guard := none }) (v := .pointer (some ⟨wo.heap.size, 2, none⟩)) rfl (by kernel_rfl) (by kernel_rfl) (by kernel_rfl) (fun _ _ _ h => h) (Or.inl ⟨by rfl, ?_⟩) (by assumption) ?_
          · intro wS hSw
            try dsimp only at hSw
            go_simp
          try simp only [Act.put, List.setIfInBounds_toArray, List.set_cons_zero, List.set_cons_succ]
          refine wpAnyH_take (i := 7) (oi := { dst := some 47, op := Op.load 3 (Operand.tmp 46), type := 3, pos := "l8_fingers.go:67", after := #[{ on := 6, ground := Ground.data }], guard := none }) (v := .int .i64 q.fType) rfl (by kernel_rfl) (by kernel_rfl) (by kernel_rfl) (fun _ _ _ h => h) (Or.inl ⟨by rfl, ?_⟩) (by assumption) ?_
          · intro wS hSw
            try dsimp only at hSw
            go_simp
          try simp only [Act.put, List.setIfInBounds_toArray, List.set_cons_zero, List.set_cons_succ]
          refine wpAnyH_take (i := 8) (oi := { dst := some 48, op := Op.indexAddr 48 (Operand.tmp 45) (Operand.tmp 47), type := 0, pos := "l8_fingers.go:67", after := #[{ on := 5, ground := Ground.data }, { on := 7, ground := Ground.data }], guard := none }) (v := .pointer (some ⟨tb, to + q.fType.toNat, none⟩)) rfl (by kernel_rfl) (by kernel_rfl) (by kernel_rfl) (fun _ _ _ h => h) (Or.inl ⟨by rfl, ?_⟩) (by assumption) ?_
          · intro wS hSw
            try dsimp only at hSw
            go_simp
          try simp only [Act.put, List.setIfInBounds_toArray, List.set_cons_zero, List.set_cons_succ]
          refine wpAnyH_take (i := 9) (oi := { dst := some 49, op := Op.load 3 (Operand.tmp 48), type := 3, pos := "l8_fingers.go:67", after := #[{ on := 8, ground := Ground.data }], guard := none }) (v := .int .i64 tq) rfl (by kernel_rfl) (by kernel_rfl) (by kernel_rfl) (fun _ _ _ h => h) (Or.inl ⟨by rfl, ?_⟩) (by assumption) ?_
          · intro wS hSw
            try dsimp only at hSw
            go_simp
          try simp only [Act.put, List.setIfInBounds_toArray, List.set_cons_zero, List.set_cons_succ]
          refine wpAnyH_ready (rs := [3]) (by kernel_rfl) (by simp) ?_
          refine AllReadyH.cons (o := { dst := some 43, op := Op.call { callee := Callee.value (Operand.func 44), args := #[Operand.tmp 42], argTypes := #[9] }, type := 3, pos := "l8_fingers.go:67", after := #[{ on := 2, ground := Ground.data }], guard := none }) rfl (fun K hK => ?_) AllReadyH.nil
          go_simp
          go_at_call 44
          refine (HTx.out _ HQ.out.1 _).mono ?_
          rintro e w1 ⟨rfl, hb1⟩
          have X1 := Lib.hid (XB.out.below hb1 XB.out.lt)
          have B1 := Lib.hid (BB.out.trans (hb1.mono BB.out.size))
          have N1 := Lib.hid (NB.out.below hb1)
          have C1 := Lib.hid (cellKeep hb1 CB.out)
          have S1 := Lib.hid (Nat.le_trans SB.out hb1.size)
          clear hb1
          refine hK.out _ _ ?_ (fun hHeld2 => ?_)
          · try dsimp only
            exact ⟨X1.out.cell 0, X1.out.cell 2, C1.out⟩
          clear hK K hHeld
          have hHeld := hHeld2
          clear hHeld2
          try simp only [Act.put, List.setIfInBounds_toArray, List.set_cons_zero, List.set_cons_succ]
          refine wpAnyH_ready (rs := [10]) (by kernel_rfl) (by simp) ?_
          refine AllReadyH.cons (o := { dst := some 50, op := Op.buildSlice 48 3 #[(0, Operand.tmp 43), (1, Operand.tmp 44), (2, Operand.tmp 49)], type := 48, pos := "l8_fingers.go:67", after := #[{ on := 3, ground := Ground.data }, { on := 4, ground := Ground.data }, { on := 9, ground := Ground.data }], guard := none }) rfl (fun K hK => ?_) AllReadyH.nil
          go_simp
          have N4 := Lib.hid (Box.new w1 3 #[.int .i64 (textZ q.fName), .int .i64 1, .int .i64 tq])
          have X4 := Lib.hid (X1.out.alloc (.cells #[.int .i64 (textZ q.fName), .int .i64 1, .int .i64 tq] 3))
          have bb4 := (Below.refl w1.heap.size w1).alloc (Nat.le_refl _) (.cells #[.int .i64 (textZ q.fName), .int .i64 1, .int .i64 tq] 3)
          have B4 := Lib.hid (B1.out.trans (bb4.mono B1.out.size))
          have M4 := Lib.hid (N1.out.below bb4)
          have C4 := Lib.hid (cellKeep bb4 C1.out)
          have S4 := Lib.hid (Nat.le_trans S1.out bb4.size)
          have nlt := World.ownsRow.lt M4.out
          clear bb4
          refine hK.out _ _ ?_ (fun hHeld2 => ?_)
          · try dsimp only
            exact ⟨X4.out.cell 0, X4.out.cell 2, C4.out⟩
          clear hK K hHeld
          have hHeld := hHeld2
          clear hHeld2
          try simp only [Act.put, List.setIfInBounds_toArray, List.set_cons_zero, List.set_cons_succ]
          refine wpAnyH_ready (rs := [11]) (by kernel_rfl) (by simp) ?_
          refine AllReadyH.cons (o := { dst := some 51, op := Op.call { callee := Callee.builtin Builtin.append, args := #[Operand.tmp 40, Operand.tmp 50], argTypes := #[48, 48] }, type := 48, pos := "l8_fingers.go:67", after := #[{ on := 0, ground := Ground.data }, { on := 10, ground := Ground.data }, { on := 3, ground := Ground.chain }], guard := none }) rfl (fun K hK => ?_) AllReadyH.nil
          refine step_pushIntsV rfl _ _ rfl (w.heap.size + 2) _ (.slice na nn nc) NL rfl M4.out [textZ q.fName, (1 : Int), tq] _ _ _ rfl rfl N4.out (by simp) hlen4 S4.out ?_
          intro g5 c5 w5 hown5 hg5 hne5
          have X5 := Lib.hid (box_grown X4.out hg5 (fun k hk e => hnyb k hk e))
          have C5 := Lib.hid (hg5.cell (a := ⟨tb, to + q.fType.toNat, none⟩) C4.out (fun e => htb2 e.symm))
          have B5 := Lib.hid (B4.out.grown hg5 B4.out.size (fun k hk => by have := (nlt k hk).1; omega))
          have S5 := Lib.hid (Nat.le_trans S4.out hg5.size)
          have O5 := Lib.hid hown5
          clear hown5 hg5 hne5
          refine hK.out _ _ ?_ (fun hHeld2 => ?_)
          · try dsimp only
            exact ⟨X5.out.cell 0, X5.out.cell 2, C5.out⟩
          clear hK K hHeld
          have hHeld := hHeld2
          clear hHeld2
          try simp only [Act.put, List.setIfInBounds_toArray, List.set_cons_zero, List.set_cons_succ]
          refine wpAnyH_take (i := 12) (oi := { dst := some 7, op := Op.assign (Operand.tmp 51), type := 48, pos := "l8_fingers.go:67", after := #[{ on := 11, ground := Ground.data }, { on := 11, ground := Ground.chain }, { on := 0, ground := Ground.phase }, { on := 1, ground := Ground.phase }, { on := 2, ground := Ground.phase }, { on := 3, ground := Ground.phase }, { on := 4, ground := Ground.phase }, { on := 5, ground := Ground.phase }, { on := 6, ground := Ground.phase }, { on := 7, ground := Ground.phase }, { on := 8, ground := Ground.phase }, { on := 9, ground := Ground.phase }, { on := 10, ground := Ground.phase }, { on := 11, ground := Ground.phase }], guard := none }) (v := .slice (some ⟨g5, 0, none⟩) (NL.length + [textZ q.fName, (1 : Int), tq].length) c5) rfl (by kernel_rfl) (by kernel_rfl) (by kernel_rfl) (fun _ _ _ h => h) (Or.inl ⟨by rfl, ?_⟩) (by assumption) ?_
          · intro wS hSw
            try dsimp only at hSw
            go_simp
          try simp only [Act.put, List.setIfInBounds_toArray, List.set_cons_zero, List.set_cons_succ]
          refine wpAnyH_done (by kernel_rfl) ?_ _
          --OT>
          go_wp2_with fail
          exact ⟨⟨k + 1, by congr 1, by omega, by rw [Hnx.out, HPZ.out]; exact O5.out, B5.out, S5.out⟩, by simp [intOf]; omega⟩
      · obtain rfl : k = o.fParams.length := by omega
        rw [List.take_length] at hown
        obtain ⟨na, nc, hform, _, hnn⟩ := hown.nums
        subst hform
        have hll : (BL ++ parsZ T o.fParams).length ≤ 200 := by rw [List.length_append, hbl5, parsZ_len]; omega
        have HN := Lib.hid hnn
        have HZ2 := Lib.hid (show objZ0 = mixL (BL ++ parsZ T o.fParams) from Hz.out)
        clear hnn Hz hown
        generalize BL ++ parsZ T o.fParams = NL at *
        have HL := Lib.hid hbel
        clear hbel
        go_wp2_with fail
        refine (sMixed na nc _ _ hll HN.out.ints).mono ?_
        rintro e w' ⟨rfl, rfl⟩
        go_wp2_with fail
        go_ret
        exact ⟨by rw [HZ2.out]; rfl, HL.out⟩

theorem sums_all {l : List TypeD} {w w' : World} {B : Nat} {v : Value} (h : OwnInts w B v (roundsZ l 25)) (hb : ∀ k, v.ownBlock = some k → w'.heap[k]? = w.heap[k]?) (h3 : 3 ≤ l.length) : ∃ b c, v = .slice (some ⟨b, 0, none⟩) l.length c ∧ ∀ m, m < (roundsZ l 25).length → b < w'.heap.size ∧ w'.cell? ⟨b, m, none⟩ = some (.int .i64 ((roundsZ l 25).getD m 0)) := by
  obtain ⟨b, c, hv, h0⟩ := sums_at h hb (m := 0) (by omega)
  refine ⟨b, c, hv, fun m hm => ?_⟩
  rw [roundsZ_len] at hm
  obtain ⟨b', c', hv', h1⟩ := sums_at h hb hm
  rw [hv] at hv'
  injection hv' with e1 e2 e3
  injection e1 with e1
  injection e1 with e1 _ _
  subst e1
  exact ⟨World.block_lt_of_cell? _ _ h0, h1⟩

set_option maxHeartbeats 16000000 in
theorem sObjectFinger (s : ScopeD) (a1 a2 a3 a4 : Option Addr) (n : Int) (w : World) (K : ScopeK s) (hr : ScopeR Any w a1 a2 a3 a4 s) :
    Calls Tryz.prog 6 #[.agg (scopeC s a1 a2 a3 a4 s.fImports.length s.fTypes.length s.fObjects.length s.fUses.length), .int .i64 n] w fun e w' => e = .returned (.tuple #[.int .i64 (ofA s n), .bool (ofB s n)]) ∧ Below w.heap.size w w' := by
  have B0 := Lib.hid ((Below.refl w.heap.size w).alloc (Nat.le_refl _) (.cells (scopeC s a1 a2 a3 a4 s.fImports.length s.fTypes.length s.fObjects.length s.fUses.length) 35))
  have X0 := Lib.hid (Box.new w 35 (scopeC s a1 a2 a3 a4 s.fImports.length s.fTypes.length s.fObjects.length s.fUses.length))
  have R0 := Lib.hid (hr.below B0.out)
  have HG := Lib.hid (sl4Good s a1 a2 a3 a4 s.fImports.length s.fTypes.length s.fObjects.length s.fUses.length _ (K.m R0.out))
  have hlo := K.lo
  clear hr K
  by_cases hp : scopeP s
  case neg =>
    obtain ⟨q1, q2⟩ := of_out (s := s) (n := n) (fun h => hp h.1)
    have HQ := Lib.hid (And.intro q1 q2)
    rw [scopeB_false hp] at HG
    clear q1 q2 hp
    obtain ⟨x0, x1, x2, x3, x4⟩ := box5 X0.out
    go_enter Tryz.func6, Tryz.ntmps6
    go_wp2_with fail
    refine HG.out.mono ?_
    rintro e w1 ⟨rfl, hb⟩
    have B1 := Lib.hid (B0.out.trans (hb.mono B0.out.size))
    clear hb x0 x1 x2 x3 x4
    go_wp2_with fail
    go_ret2
    exact ⟨by rw [HQ.out.1, HQ.out.2]; rfl, B1.out⟩
  rw [scopeB_true hp] at HG
  have iw : IntKind.i64.wrap ((s.fObjects.length : Int) - 1) = (s.fObjects.length : Int) - 1 := IntWalk.i64_in _ (by omega)
  by_cases hn : 0 ≤ n ∧ n < (s.fObjects.length : Int)
  case neg =>
    obtain ⟨q1, q2⟩ := of_out (s := s) (n := n) (fun h => hn h.2)
    have HQ := Lib.hid (And.intro q1 q2)
    have HN := Lib.hid (fun W => sIn_no n 0 ((s.fObjects.length : Int) - 1) W (by omega))
    clear q1 q2 hp hn
    obtain ⟨x0, x1, x2, x3, x4⟩ := box5 X0.out
    go_enter Tryz.func6, Tryz.ntmps6
    go_wp2_with fail
    refine HG.out.mono ?_
    rintro e w1 ⟨rfl, hb⟩
    have B1 := Lib.hid (B0.out.trans (hb.mono B0.out.size))
    have X1 := Lib.hid (X0.out.below hb X0.out.lt)
    clear hb x0 x1 x2 x3 x4
    obtain ⟨x0, x1, x2, x3, x4⟩ := box5 X1.out
    go_wp2_with fail
    refine (HN.out _).mono ?_
    rintro e w2 ⟨rfl, rfl⟩
    clear x0 x1 x2 x3 x4
    go_wp2_with fail
    go_ret2
    exact ⟨by rw [HQ.out.1, HQ.out.2]; rfl, B1.out⟩
  have HN := Lib.hid (fun W => sIn_yes n 0 ((s.fObjects.length : Int) - 1) W (by omega) (by omega))
  obtain ⟨m, rfl⟩ := Int.eq_ofNat_of_zero_le hn.1
  have hm : m < s.fObjects.length := by omega
  obtain ⟨q1, q2⟩ := of_in hp hm
  have HQ := Lib.hid (And.intro q1 q2)
  have hl24 := hp.2.2.1.1.2.1
  have hl3 := hp.2.2.1.1.1.1
  have HRt := Lib.hid (fun n (h : n < s.fTypes.length) => hp.2.2.1.1.rt n h)
  have HOt := Lib.hid (ot_of hp hm)
  have i1 : (0 : Int) ≤ (m : Int) := by omega
  have i2 : (m : Int) < (s.fObjects.length : Int) := by omega
  clear q1 q2 hp hn
  go_enter Tryz.func6, Tryz.ntmps6
  obtain ⟨x0, x1, x2, x3, x4⟩ := box5 X0.out
  go_wp2_with fail
  refine HG.out.mono ?_
  rintro e w1 ⟨rfl, hb⟩
  have B1 := Lib.hid (B0.out.trans (hb.mono B0.out.size))
  have X1 := Lib.hid (X0.out.below hb X0.out.lt)
  have R1 := Lib.hid (R0.out.below hb)
  clear hb x0 x1 x2 x3 x4 HG
  obtain ⟨x0, x1, x2, x3, x4⟩ := box5 X1.out
  go_wp2_with fail
  refine (HN.out _).mono ?_
  rintro e w2 ⟨rfl, rfl⟩
  clear x0 x1 x2 x3 x4 HN
  go_wp2_with fail
  have Y0 := Lib.hid (X1.out.drewN 1)
  have R3 := Lib.hid R1.out.drew
  have B3 := Lib.hid (belowN B1.out 1)
  have HS := Lib.hid (sl8Rounds a2 s.fTypes.length s.fTypes 25 w1.drew hl24 HRt.out (by omega) R3.out.types)
  obtain ⟨ob, oo, ocs, hoa, _, hobl, hoc, hoat⟩ := R3.out.objects m hm
  obtain ⟨pa, pc, rfl, hpr, _⟩ := hoat
  subst hoa
  have o0 := hoc 0 (by decide)
  have o1 := hoc 1 (by decide)
  have o2 := hoc 2 (by decide)
  have o3 := hoc 3 (by decide)
  have o4 := hoc 4 (by decide)
  have o5 := hoc 5 (by decide)
  have hon : objectS.n = 6 := rfl
  simp only [hon, Nat.add_zero, List.getElem?_cons_zero, List.getElem?_cons_succ] at o0 o1 o2 o3 o4 o5
  have HPR := Lib.hid hpr.any
  clear hoc hpr
  generalize s.fObjects[m] = ob0 at *
  --OG<
  refine wp_region_held_drew (S := fun w' => w'.cell? ⟨w.heap.size, 0, none⟩ = some (.string s.fName) ∧ w'.cell? ⟨w.heap.size, 1, none⟩ = some (.slice a1 s.fImports.length s.fImports.length) ∧ w'.cell? ⟨w.heap.size, 2, none⟩ = some (.slice a2 s.fTypes.length s.fTypes.length) ∧ w'.cell? ⟨w.heap.size, 3, none⟩ = some (.slice (some ⟨ob, oo, none⟩) s.fObjects.length s.fObjects.length) ∧ w'.cell? ⟨w.heap.size, 4, none⟩ = some (.slice a4 s.fUses.length s.fUses.length) ∧ w'.cell? ⟨ob, oo + m * 6, none⟩ = some (.string ob0.fName) ∧ w'.cell? ⟨ob, oo + m * 6 + 1, none⟩ = some (.int .i64 ob0.fKind) ∧ w'.cell? ⟨ob, oo + m * 6 + 2, none⟩ = some (.int .i64 ob0.fMark) ∧ w'.cell? ⟨ob, oo + m * 6 + 3, none⟩ = some (.int .i64 ob0.fType) ∧ w'.cell? ⟨ob, oo + m * 6 + 4, none⟩ = some (.int .i64 ob0.fValue) ∧ w'.cell? ⟨ob, oo + m * 6 + 5, none⟩ = some (.slice pa ob0.fParams.length pc)) (by kernel_rfl) ?_ (fun hHeld => ?_)
  · try dsimp only
    exact ⟨Y0.out.cell 0, Y0.out.cell 1, Y0.out.cell 2, Y0.out.cell 3, Y0.out.cell 4, o0, o1, o2, o3, o4, o5⟩
  refine wpAnyH_take (i := 0) (oi := { dst := some 18, op := Op.load 35 (Operand.tmp 2), type := 35, pos := "l8_fingers.go:76", after := #[], guard := none }) (v := .agg #[.string s.fName, .slice a1 s.fImports.length s.fImports.length, .slice a2 s.fTypes.length s.fTypes.length, .slice (some ⟨ob, oo, none⟩) s.fObjects.length s.fObjects.length, .slice a4 s.fUses.length s.fUses.length]) rfl (by kernel_rfl) (by kernel_rfl) (by kernel_rfl) (fun _ _ _ h => h) (Or.inl ⟨by rfl, ?_⟩) (by assumption) ?_
  · intro wS hSw
    try dsimp only at hSw
    go_simp
  try simp only [Act.put, List.setIfInBounds_toArray, List.set_cons_zero, List.set_cons_succ]
  refine wpAnyH_take (i := 1) (oi := { dst := some 19, op := Op.fieldAddr 35 (Operand.tmp 2) 2, type := 0, pos := "l8_fingers.go:76", after := #[], guard := none }) (v := .pointer (some ⟨w.heap.size, 2, none⟩)) rfl (by kernel_rfl) (by kernel_rfl) (by kernel_rfl) (fun _ _ _ h => h) (Or.inl ⟨by rfl, ?_⟩) (by assumption) ?_
  · intro wS hSw
    try dsimp only at hSw
    go_simp
  try simp only [Act.put, List.setIfInBounds_toArray, List.set_cons_zero, List.set_cons_succ]
  refine wpAnyH_take (i := 2) (oi := { dst := some 20, op := Op.load 31 (Operand.tmp 19), type := 31, pos := "l8_fingers.go:76", after := #[{ on := 1, ground := Ground.data }], guard := none }) (v := .slice a2 s.fTypes.length s.fTypes.length) rfl (by kernel_rfl) (by kernel_rfl) (by kernel_rfl) (fun _ _ _ h => h) (Or.inl ⟨by rfl, ?_⟩) (by assumption) ?_
  · intro wS hSw
    try dsimp only at hSw
    go_simp
  try simp only [Act.put, List.setIfInBounds_toArray, List.set_cons_zero, List.set_cons_succ]
  refine wpAnyH_take (i := 4) (oi := { dst := some 22, op := Op.fieldAddr 35 (Operand.tmp 2) 3, type := 0, pos := "l8_fingers.go:76", after := #[], guard := none }) (v := .pointer (some ⟨w.heap.size, 3, none⟩)) rfl (by kernel_rfl) (by kernel_rfl) (by kernel_rfl) (fun _ _ _ h => h) (Or.inl ⟨by rfl, ?_⟩) (by assumption) ?_
  · intro wS hSw
    try dsimp only at hSw
    go_simp
  try simp only [Act.put, List.setIfInBounds_toArray, List.set_cons_zero, List.set_cons_succ]
  refine wpAnyH_take (i := 5) (oi := { dst := some 23, op := Op.load 32 (Operand.tmp 22), type := 32, pos := "l8_fingers.go:76", after := #[{ on := 4, ground := Ground.data }], guard := none }) (v := .slice (some ⟨ob, oo, none⟩) s.fObjects.length s.fObjects.length) rfl (by kernel_rfl) (by kernel_rfl) (by kernel_rfl) (fun _ _ _ h => h) (Or.inl ⟨by rfl, ?_⟩) (by assumption) ?_
  · intro wS hSw
    try dsimp only at hSw
    go_simp
  try simp only [Act.put, List.setIfInBounds_toArray, List.set_cons_zero, List.set_cons_succ]
  refine wpAnyH_take (i := 6) (oi := { dst := some 24, op := Op.move (Operand.tmp 1), type := 3, pos := "l8_fingers.go:76", after := #[], guard := none }) (v := .int .i64 (m : Int)) rfl (by kernel_rfl) (by kernel_rfl) (by kernel_rfl) (fun _ _ _ h => h) (Or.inl ⟨by rfl, ?_⟩) (by assumption) ?_
  · intro wS hSw
    try dsimp only at hSw
    go_simp
  try simp only [Act.put, List.setIfInBounds_toArray, List.set_cons_zero, List.set_cons_succ]
  refine wpAnyH_take (i := 7) (oi := { dst := some 25, op := Op.indexAddr 32 (Operand.tmp 23) (Operand.tmp 24), type := 0, pos := "l8_fingers.go:76", after := #[{ on := 5, ground := Ground.data }, { on := 6, ground := Ground.data }], guard := none }) (v := .pointer (some ⟨ob, oo + m * 6, none⟩)) rfl (by kernel_rfl) (by kernel_rfl) (by kernel_rfl) (fun _ _ _ h => h) (Or.inl ⟨by rfl, ?_⟩) (by assumption) ?_
  · intro wS hSw
    try dsimp only at hSw
    go_simp
  try simp only [Act.put, List.setIfInBounds_toArray, List.set_cons_zero, List.set_cons_succ]
  refine wpAnyH_take (i := 8) (oi := { dst := some 26, op := Op.load 52 (Operand.tmp 25), type := 52, pos := "l8_fingers.go:76", after := #[{ on := 7, ground := Ground.data }], guard := none }) (v := .agg #[.string ob0.fName, .int .i64 ob0.fKind, .int .i64 ob0.fMark, .int .i64 ob0.fType, .int .i64 ob0.fValue, .slice pa ob0.fParams.length pc]) rfl (by kernel_rfl) (by kernel_rfl) (by kernel_rfl) (fun _ _ _ h => h) (Or.inl ⟨by rfl, ?_⟩) (by assumption) ?_
  · intro wS hSw
    try dsimp only at hSw
    go_simp
  try simp only [Act.put, List.setIfInBounds_toArray, List.set_cons_zero, List.set_cons_succ]
  refine wpAnyH_ready (rs := [3]) (by kernel_rfl) (by simp) ?_
  refine AllReadyH.cons (o := { dst := some 21, op := Op.call { callee := Callee.value (Operand.func 19), args := #[Operand.tmp 20, Operand.const (Value.int IntKind.i64 25)], argTypes := #[31, 3] }, type := 48, pos := "l8_fingers.go:76", after := #[{ on := 2, ground := Ground.data }], guard := none }) rfl (fun K hK => ?_) AllReadyH.nil
  go_simp
  go_at_call 19
  refine HS.out.mono ?_
  rintro e w2 ⟨v, rfl, hv, hb2⟩
  obtain ⟨vb, vc, rfl, hvc⟩ := sums_all hv (w' := w2) (fun _ _ => rfl) hl3
  have hb2d : Below w1.drew.heap.size w1.drew w2 := ⟨hb2.os, hb2.tape, hb2.output, hb2.size, hb2.block⟩
  have BX := Lib.hid hb2d
  have HO := Lib.hid (sl8Object (.agg #[.string s.fName, .slice a1 s.fImports.length s.fImports.length, .slice a2 s.fTypes.length s.fTypes.length, .slice (some ⟨ob, oo, none⟩) s.fObjects.length s.fObjects.length, .slice a4 s.fUses.length s.fUses.length]) (roundsZ s.fTypes 25) vb 0 vc ob0 pa pc w2 ⟨rfl, _, rfl, rfl⟩ (fun j hj => ⟨(hvc j hj).1, by rw [Nat.zero_add]; exact (hvc j hj).2⟩) (by rw [roundsZ_len]; exact HOt.out) (HPR.out.below hb2d))
  rw [roundsZ_len] at HO
  clear hv hb2 hb2d hvc
  refine hK.out _ _ ?_ (fun hHeld2 => ?_)
  · try dsimp only
    exact ⟨(Y0.out.below BX.out Y0.out.lt).cell 0, (Y0.out.below BX.out Y0.out.lt).cell 1, (Y0.out.below BX.out Y0.out.lt).cell 2, (Y0.out.below BX.out Y0.out.lt).cell 3, (Y0.out.below BX.out Y0.out.lt).cell 4, (cellKeep BX.out o0), (cellKeep BX.out o1), (cellKeep BX.out o2), (cellKeep BX.out o3), (cellKeep BX.out o4), (cellKeep BX.out o5)⟩
  clear hK K hHeld
  have hHeld := hHeld2
  clear hHeld2
  try simp only [Act.put, List.setIfInBounds_toArray, List.set_cons_zero, List.set_cons_succ]
  refine wpAnyH_ready (rs := [9]) (by kernel_rfl) (by simp) ?_
  refine AllReadyH.cons (o := { dst := some 27, op := Op.call { callee := Callee.value (Operand.func 18), args := #[Operand.tmp 18, Operand.tmp 21, Operand.tmp 26], argTypes := #[35, 48, 52] }, type := 3, pos := "l8_fingers.go:76", after := #[{ on := 0, ground := Ground.data }, { on := 3, ground := Ground.data }, { on := 8, ground := Ground.data }, { on := 3, ground := Ground.chain }], guard := none }) rfl (fun K hK => ?_) AllReadyH.nil
  go_simp
  go_at_call 18
  refine HO.out.mono ?_
  rintro e w4 ⟨rfl, hb4⟩
  have B4 := Lib.hid (BX.out.trans (hb4.mono BX.out.size))
  have B5 := Lib.hid (B3.out.trans (B4.out.mono B3.out.size))
  clear hb4
  refine hK.out _ _ ?_ (fun hHeld2 => ?_)
  · try dsimp only
    exact ⟨(Y0.out.below B4.out Y0.out.lt).cell 0, (Y0.out.below B4.out Y0.out.lt).cell 1, (Y0.out.below B4.out Y0.out.lt).cell 2, (Y0.out.below B4.out Y0.out.lt).cell 3, (Y0.out.below B4.out Y0.out.lt).cell 4, (cellKeep B4.out o0), (cellKeep B4.out o1), (cellKeep B4.out o2), (cellKeep B4.out o3), (cellKeep B4.out o4), (cellKeep B4.out o5)⟩
  clear hK K hHeld
  have hHeld := hHeld2
  clear hHeld2
  try simp only [Act.put, List.setIfInBounds_toArray, List.set_cons_zero, List.set_cons_succ]
  refine wpAnyH_take (i := 10) (oi := { dst := some 4, op := Op.assign (Operand.tmp 27), type := 3, pos := "l8_fingers.go:76", after := #[{ on := 9, ground := Ground.data }, { on := 9, ground := Ground.chain }, { on := 0, ground := Ground.phase }, { on := 1, ground := Ground.phase }, { on := 2, ground := Ground.phase }, { on := 3, ground := Ground.phase }, { on := 4, ground := Ground.phase }, { on := 5, ground := Ground.phase }, { on := 6, ground := Ground.phase }, { on := 7, ground := Ground.phase }, { on := 8, ground := Ground.phase }, { on := 9, ground := Ground.phase }], guard := none }) (v := .int .i64 (objZ (roundsZ s.fTypes 25) ob0)) rfl (by kernel_rfl) (by kernel_rfl) (by kernel_rfl) (fun _ _ _ h => h) (Or.inl ⟨by rfl, ?_⟩) (by assumption) ?_
  · intro wS hSw
    try dsimp only at hSw
    go_simp
  try simp only [Act.put, List.setIfInBounds_toArray, List.set_cons_zero, List.set_cons_succ]
  refine wpAnyH_take (i := 11) (oi := { dst := some 5, op := Op.assign (Operand.const (Value.bool true)), type := 4, pos := "l8_fingers.go:76", after := #[{ on := 10, ground := Ground.chain }, { on := 0, ground := Ground.phase }, { on := 1, ground := Ground.phase }, { on := 2, ground := Ground.phase }, { on := 3, ground := Ground.phase }, { on := 4, ground := Ground.phase }, { on := 5, ground := Ground.phase }, { on := 6, ground := Ground.phase }, { on := 7, ground := Ground.phase }, { on := 8, ground := Ground.phase }, { on := 9, ground := Ground.phase }, { on := 10, ground := Ground.phase }], guard := none }) (v := .bool true) rfl (by kernel_rfl) (by kernel_rfl) (by kernel_rfl) (fun _ _ _ h => h) (Or.inl ⟨by rfl, ?_⟩) (by assumption) ?_
  · intro wS hSw
    try dsimp only at hSw
    go_simp
  try simp only [Act.put, List.setIfInBounds_toArray, List.set_cons_zero, List.set_cons_succ]
  refine wpAnyH_done (by kernel_rfl) ?_ _
  --OG>
  go_wp2_with fail
  go_ret2
  exact ⟨by rw [HQ.out.1, HQ.out.2]; rfl, B5.out⟩
end Go.Proofs.YtllddjmcemcdhaaGreat
