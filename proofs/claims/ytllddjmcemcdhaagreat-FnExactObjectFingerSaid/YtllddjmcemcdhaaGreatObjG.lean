
/-
  What is proved: the finger of an object of a scope; the contract of the program's ObjectFinger. No condition beside what each theorem states.
-/
import Derived.Test.YtllddjmcemcdhaaGreatObjF
import Derived.Test.YtllddjmcemcdhaaGreatOpenScope
namespace Go.Proofs.YtllddjmcemcdhaaGreat
open Go.ChangeShapes Go.WideShapes Go.ChangeAt Go.RowKit
set_option maxRecDepth 100000

/-- A good scope, and the number of an object of it. -/
def ofP (s : ScopeD) (n : Int) : Prop := scopeP s ∧ 0 ≤ n ∧ n < (s.fObjects.length : Int)
open Classical in
noncomputable def ofB (s : ScopeD) (n : Int) : Bool := decide (ofP s n)
open Classical in
noncomputable def ofA (s : ScopeD) (n : Int) : Int := if h : ofP s n then objZ (roundsZ s.fTypes 25) (s.fObjects[n.toNat]'(by have := h.2; omega)) else 0
theorem of_in {s : ScopeD} {m : Nat} (h : scopeP s) (hm : m < s.fObjects.length) : ofB s (m : Int) = true ∧ ofA s (m : Int) = objZ (roundsZ s.fTypes 25) s.fObjects[m] := by
  have hp : ofP s (m : Int) := ⟨h, by omega, by omega⟩
  refine ⟨by unfold ofB; simpa using hp, ?_⟩
  unfold ofA
  rw [dif_pos hp]
  rfl
theorem of_out {s : ScopeD} {n : Int} (h : ¬ ofP s n) : ofB s n = false ∧ ofA s n = 0 := ⟨by unfold ofB; simpa using h, by unfold ofA; rw [dif_neg h]⟩
theorem ot_of {s : ScopeD} (h : scopeP s) {m : Nat} (hm : m < s.fObjects.length) : OT s.fTypes.length s.fObjects[m] := by
  obtain ⟨_, _, _, ⟨_, ho, hno⟩, _⟩ := h
  have hob := ho _ (List.getElem_mem hm)
  have hnm : nameP s.fObjects[m].fName := by
    have := hno.1 (s.fImports.length + m) (by simp; omega) (by simp; omega)
    rw [List.getElem_append_right (by omega)] at this
    simpa using this
  obtain ⟨_, _, hk⟩ := hob
  refine ⟨by have := hnm.2.1; omega, ?_, ?_, ?_⟩
  · rcases hk with ⟨_, h, _⟩ | ⟨_, h, _⟩ | ⟨_, h, _⟩
    · exact .inr ⟨by omega, by rw [h]; have := (‹good s.fTypes›).1.1.1; omega⟩
    · exact .inr h
    · by_cases e : s.fObjects[m].fType = -1
      · exact .inl e
      · exact .inr ⟨by omega, h.2⟩
  · rcases hk with ⟨_, _, _, h⟩ | ⟨_, _, _, h⟩ | ⟨_, _, _, h⟩
    · omega
    · omega
    · exact h.1
  · intro i hi
    rcases hk with ⟨_, _, _, h⟩ | ⟨_, _, _, h⟩ | ⟨_, _, _, h⟩
    · omega
    · omega
    · have h1 := h.2.1 _ (List.getElem_mem hi)
      have h2 := h.2.2.1 i (by simpa using hi) (by simpa using hi)
      rw [List.getElem_map] at h2
      exact ⟨by have := h2.2.1; omega, h1.1, h1.2⟩
theorem cellKeep {w w' : World} {p : Addr} {v : Value} (hb : Below w.heap.size w w') (h : w.cell? p = some v) : w'.cell? p = some v := (hb.cell (World.block_lt_of_cell? _ _ h)).trans h
theorem Rows.apart {T : Type} {S : Shape T} {w w' : World} {a : Option Addr} {l : List T} {g : Nat} (h : Rows S Any w a l) (hb : Below w.heap.size w w') (hg : w.heap.size ≤ g) : Rows S (fun q => q ≠ g) w' a l :=
  Rows.mono (Q' := fun q => q ≠ g) ((Rows.mono (Q' := fun q => q < w.heap.size) h (fun _ _ hl => hl)).keep (fun b _ hl => hb.block b hl) hb.size) (fun b hq _ => by omega)
set_option maxHeartbeats 4000000 in
theorem iObjNum (A : ScopeD) (x : Int) (a1 a2 a3 a4 : Option Addr) (c1 c2 c3 c4 : Nat) (w : World) :
    Calls Tryz.prog 25 #[.agg (scopeC A a1 a2 a3 a4 c1 c2 c3 c4), .int .i64 x] w fun e w' => e = .returned (.bool (decide (0 ≤ x ∧ x < (A.fObjects.length : Int)))) ∧ Below w.heap.size w w' := by
  have B0 := Lib.hid ((Below.refl w.heap.size w).alloc (Nat.le_refl _) (.cells (scopeC A a1 a2 a3 a4 c1 c2 c3 c4) 35))
  obtain ⟨v, hv⟩ : ∃ v, decide (0 ≤ x ∧ x < (A.fObjects.length : Int)) = v := ⟨_, rfl⟩
  rw [hv]
  by_cases h1 : 0 ≤ x
  · by_cases h2 : x < (A.fObjects.length : Int)
    · have Hv := Lib.hid (show v = true by rw [← hv]; exact decide_eq_true ⟨h1, h2⟩)
      clear hv
      go_enter Tryz.func25, Tryz.ntmps25
      go_wp2_with fail
      go_ret
      exact ⟨by rw [Hv.out]; rfl, B0.out⟩
    · have Hv := Lib.hid (show v = false by rw [← hv]; exact decide_eq_false (fun h => h2 h.2))
      clear hv
      go_enter Tryz.func25, Tryz.ntmps25
      go_wp2_with fail
      go_ret
      exact ⟨by rw [Hv.out]; rfl, B0.out⟩
  · have Hv := Lib.hid (show v = false by rw [← hv]; exact decide_eq_false (fun h => h1 h.1))
    clear hv
    go_enter Tryz.func25, Tryz.ntmps25
    go_wp2_with fail
    go_ret
    exact ⟨by rw [Hv.out]; rfl, B0.out⟩

set_option maxHeartbeats 16000000 in
theorem iObjectFinger (s : ScopeD) (a1 a2 a3 a4 : Option Addr) (n : Int) (w : World) (K : ScopeK s) (hr : ScopeR Any w a1 a2 a3 a4 s) :
    Calls Tryz.prog 8 #[.agg (scopeC s a1 a2 a3 a4 s.fImports.length s.fTypes.length s.fObjects.length s.fUses.length), .int .i64 n] w fun e w' => e = .returned (.tuple #[.int .i64 (ofA s n), .bool (ofB s n)]) ∧ Below w.heap.size w w' := by
  have B0 := Lib.hid ((Below.refl w.heap.size w).alloc (Nat.le_refl _) (.cells (scopeC s a1 a2 a3 a4 s.fImports.length s.fTypes.length s.fObjects.length s.fUses.length) 35))
  have X0 := Lib.hid (Box.new w 35 (scopeC s a1 a2 a3 a4 s.fImports.length s.fTypes.length s.fObjects.length s.fUses.length))
  have R0 := Lib.hid (hr.below B0.out)
  have HG := Lib.hid (iGoodScope s a1 a2 a3 a4 s.fImports.length s.fTypes.length s.fObjects.length s.fUses.length _ (K.m R0.out))
  have HN := Lib.hid (fun W => iObjNum s n a1 a2 a3 a4 s.fImports.length s.fTypes.length s.fObjects.length s.fUses.length W)
  have HTl := Lib.hid K.lt
  clear hr K
  by_cases hp : scopeP s
  case neg =>
    obtain ⟨q1, q2⟩ := of_out (s := s) (n := n) (fun h => hp h.1)
    have HQ := Lib.hid (And.intro q1 q2)
    rw [scopeB_false hp] at HG
    clear q1 q2 hp
    obtain ⟨x0, x1, x2, x3, x4⟩ := box5 X0.out
    go_enter Tryz.func8, Tryz.ntmps8
    go_wp2_with fail
    refine HG.out.mono ?_
    rintro e w1 ⟨rfl, hb⟩
    have B1 := Lib.hid (B0.out.trans (hb.mono B0.out.size))
    clear hb x0 x1 x2 x3 x4
    go_wp2_with fail
    go_ret2
    exact ⟨by rw [HQ.out.1, HQ.out.2]; rfl, B1.out⟩
  rw [scopeB_true hp] at HG
  have HP := Lib.hid hp
  by_cases hn : 0 ≤ n ∧ n < (s.fObjects.length : Int)
  case neg =>
    obtain ⟨q1, q2⟩ := of_out (s := s) (n := n) (fun h => hn h.2)
    have HQ := Lib.hid (And.intro q1 q2)
    rw [decide_eq_false hn] at HN
    clear q1 q2 hp hn
    obtain ⟨x0, x1, x2, x3, x4⟩ := box5 X0.out
    go_enter Tryz.func8, Tryz.ntmps8
    go_wp2_with fail
    refine HG.out.mono ?_
    rintro e w1 ⟨rfl, hb⟩
    have B1 := Lib.hid (B0.out.trans (hb.mono B0.out.size))
    have X1 := Lib.hid (X0.out.below hb X0.out.lt)
    clear hb x0 x1 x2 x3 x4
    obtain ⟨x0, x1, x2, x3, x4⟩ := box5 X1.out
    go_wp2_with fail
    refine (HN.out _).mono ?_
    rintro e w2 ⟨rfl, hb⟩
    have B2 := Lib.hid (B1.out.trans (hb.mono B1.out.size))
    clear hb x0 x1 x2 x3 x4
    go_wp2_with fail
    go_ret2
    exact ⟨by rw [HQ.out.1, HQ.out.2]; rfl, B2.out⟩
  rw [decide_eq_true hn] at HN
  obtain ⟨m, rfl⟩ := Int.eq_ofNat_of_zero_le hn.1
  have hm : m < s.fObjects.length := by omega
  obtain ⟨q1, q2⟩ := of_in hp hm
  have HQ := Lib.hid (And.intro q1 q2)
  have hl24 := hp.2.2.1.1.2.1
  have HRt := Lib.hid (fun n (h : n < s.fTypes.length) => hp.2.2.1.1.rt n h)
  have HOt := Lib.hid (ot_of hp hm)
  have i1 : (0 : Int) ≤ (m : Int) := by omega
  have i2 : (m : Int) < (s.fObjects.length : Int) := by omega
  clear q1 q2 hp hn
  go_enter Tryz.func8, Tryz.ntmps8
  obtain ⟨x0, x1, x2, x3, x4⟩ := box5 X0.out
  go_wp2_with fail
  refine HG.out.mono ?_
  rintro e w1 ⟨rfl, hb⟩
  have B1 := Lib.hid (B0.out.trans (hb.mono B0.out.size))
  have X1 := Lib.hid (X0.out.below hb X0.out.lt)
  have R1 := Lib.hid (R0.out.below hb)
  clear hb x0 x1 x2 x3 x4 HG
  obtain ⟨x0, x1, x2, x3, x4⟩ := box5 X1.out
  go_wp2_with fail
  refine (HN.out _).mono ?_
  rintro e w2 ⟨rfl, hb⟩
  have B2 := Lib.hid (B1.out.trans (hb.mono B1.out.size))
  have X2 := Lib.hid (X1.out.below hb X1.out.lt)
  have R2 := Lib.hid (R1.out.below hb)
  clear hb x0 x1 x2 x3 x4 HN
  go_wp2_with fail
  have hbd := (Below.refl w2.heap.size w2).drew
  have Y0 := Lib.hid (X2.out.drewN 1)
  have R3 := Lib.hid R2.out.drew
  have B3 := Lib.hid (belowN B2.out 1)
  obtain ⟨ob, oo, ocs, hoa, _, hobl, hoc, hoat⟩ := R3.out.objects m hm
  obtain ⟨pa, pc, rfl, hpr, _⟩ := hoat
  subst hoa
  have o0 := hoc 0 (by decide)
  have o1 := hoc 1 (by decide)
  have o2 := hoc 2 (by decide)
  have o3 := hoc 3 (by decide)
  have o4 := hoc 4 (by decide)
  have o5 := hoc 5 (by decide)
  have hon : objectS.n = 6 := rfl
  simp only [hon, Nat.add_zero, List.getElem?_cons_zero, List.getElem?_cons_succ] at o0 o1 o2 o3 o4 o5
  have HPR := Lib.hid hpr.any
  clear hoc hpr
  generalize s.fObjects[m] = ob0 at *
  --OF<
  refine wp_region_held_drew (S := fun w' => w'.cell? ⟨w.heap.size, 2, none⟩ = some (.slice a2 s.fTypes.length s.fTypes.length) ∧ w'.cell? ⟨w.heap.size, 3, none⟩ = some (.slice (some ⟨ob, oo, none⟩) s.fObjects.length s.fObjects.length) ∧ w'.cell? ⟨ob, oo + m * 6, none⟩ = some (.string ob0.fName) ∧ w'.cell? ⟨ob, oo + m * 6 + 1, none⟩ = some (.int .i64 ob0.fKind) ∧ w'.cell? ⟨ob, oo + m * 6 + 2, none⟩ = some (.int .i64 ob0.fMark) ∧ w'.cell? ⟨ob, oo + m * 6 + 3, none⟩ = some (.int .i64 ob0.fType) ∧ w'.cell? ⟨ob, oo + m * 6 + 4, none⟩ = some (.int .i64 ob0.fValue) ∧ w'.cell? ⟨ob, oo + m * 6 + 5, none⟩ = some (.slice pa ob0.fParams.length pc)) (by kernel_rfl) ?_ (fun hHeld => ?_)
  · try dsimp only
    exact ⟨Y0.out.cell 2, Y0.out.cell 3, o0, o1, o2, o3, o4, o5⟩
  refine wpAnyH_take (i := 0) (oi := { dst := some 15, op := Op.fieldAddr 35 (Operand.tmp 2) 2, type := 0, pos := "l8_fingers.go:65", after := #[], guard := none }) (v := .pointer (some ⟨w.heap.size, 2, none⟩)) rfl (by kernel_rfl) (by kernel_rfl) (by kernel_rfl) (fun _ _ _ h => h) (Or.inl ⟨by rfl, ?_⟩) (by assumption) ?_
  · intro wS hSw
    try dsimp only at hSw
    go_simp
  try simp only [Act.put, List.setIfInBounds_toArray, List.set_cons_zero, List.set_cons_succ]
  refine wpAnyH_take (i := 1) (oi := { dst := some 16, op := Op.load 31 (Operand.tmp 15), type := 31, pos := "l8_fingers.go:65", after := #[{ on := 0, ground := Ground.data }], guard := none }) (v := .slice a2 s.fTypes.length s.fTypes.length) rfl (by kernel_rfl) (by kernel_rfl) (by kernel_rfl) (fun _ _ _ h => h) (Or.inl ⟨by rfl, ?_⟩) (by assumption) ?_
  · intro wS hSw
    try dsimp only at hSw
    go_simp
  try simp only [Act.put, List.setIfInBounds_toArray, List.set_cons_zero, List.set_cons_succ]
  refine wpAnyH_take (i := 2) (oi := { dst := some 17, op := Op.build 73 #[(0, Operand.tmp 16)], type := 73, pos := "l8_fingers.go:65", after := #[{ on := 1, ground := Ground.data }], guard := none }) (v := .agg #[.slice a2 s.fTypes.length s.fTypes.length, .int .u32 0, .int .i32 0, .int .u32 0, .slice none 0 0]) rfl (by kernel_rfl) (by kernel_rfl) (by kernel_rfl) (fun _ _ _ h => h) (Or.inl ⟨by rfl, ?_⟩) (by assumption) ?_
  · intro wS hSw
    try dsimp only at hSw
    go_simp
  try simp only [Act.put, List.setIfInBounds_toArray, List.set_cons_zero, List.set_cons_succ]
  refine wpAnyH_take (i := 4) (oi := { dst := some 19, op := Op.fieldAddr 35 (Operand.tmp 2) 3, type := 0, pos := "l8_fingers.go:65", after := #[], guard := none }) (v := .pointer (some ⟨w.heap.size, 3, none⟩)) rfl (by kernel_rfl) (by kernel_rfl) (by kernel_rfl) (fun _ _ _ h => h) (Or.inl ⟨by rfl, ?_⟩) (by assumption) ?_
  · intro wS hSw
    try dsimp only at hSw
    go_simp
  try simp only [Act.put, List.setIfInBounds_toArray, List.set_cons_zero, List.set_cons_succ]
  refine wpAnyH_take (i := 5) (oi := { dst := some 20, op := Op.load 32 (Operand.tmp 19), type := 32, pos := "l8_fingers.go:65", after := #[{ on := 4, ground := Ground.data }], guard := none }) (v := .slice (some ⟨ob, oo, none⟩) s.fObjects.length s.fObjects.length) rfl (by kernel_rfl) (by kernel_rfl) (by kernel_rfl) (fun _ _ _ h => h) (Or.inl ⟨by rfl, ?_⟩) (by assumption) ?_
  · intro wS hSw
    try dsimp only at hSw
    go_simp
  try simp only [Act.put, List.setIfInBounds_toArray, List.set_cons_zero, List.set_cons_succ]
  refine wpAnyH_take (i := 6) (oi := { dst := some 21, op := Op.move (Operand.tmp 1), type := 3, pos := "l8_fingers.go:65", after := #[], guard := none }) (v := .int .i64 (m : Int)) rfl (by kernel_rfl) (by kernel_rfl) (by kernel_rfl) (fun _ _ _ h => h) (Or.inl ⟨by rfl, ?_⟩) (by assumption) ?_
  · intro wS hSw
    try dsimp only at hSw
    go_simp
  try simp only [Act.put, List.setIfInBounds_toArray, List.set_cons_zero, List.set_cons_succ]
  refine wpAnyH_take (i := 7) (oi := { dst := some 22, op := Op.indexAddr 32 (Operand.tmp 20) (Operand.tmp 21), type := 0, pos := "l8_fingers.go:65", after := #[{ on := 5, ground := Ground.data }, { on := 6, ground := Ground.data }], guard := none }) (v := .pointer (some ⟨ob, oo + m * 6, none⟩)) rfl (by kernel_rfl) (by kernel_rfl) (by kernel_rfl) (fun _ _ _ h => h) (Or.inl ⟨by rfl, ?_⟩) (by assumption) ?_
  · intro wS hSw
    try dsimp only at hSw
    go_simp
  try simp only [Act.put, List.setIfInBounds_toArray, List.set_cons_zero, List.set_cons_succ]
  refine wpAnyH_take (i := 8) (oi := { dst := some 23, op := Op.load 52 (Operand.tmp 22), type := 52, pos := "l8_fingers.go:65", after := #[{ on := 7, ground := Ground.data }], guard := none }) (v := .agg #[.string ob0.fName, .int .i64 ob0.fKind, .int .i64 ob0.fMark, .int .i64 ob0.fType, .int .i64 ob0.fValue, .slice pa ob0.fParams.length pc]) rfl (by kernel_rfl) (by kernel_rfl) (by kernel_rfl) (fun _ _ _ h => h) (Or.inl ⟨by rfl, ?_⟩) (by assumption) ?_
  · intro wS hSw
    try dsimp only at hSw
    go_simp
  try simp only [Act.put, List.setIfInBounds_toArray, List.set_cons_zero, List.set_cons_succ]
  refine wpAnyH_ready (rs := [3]) (by kernel_rfl) (by simp) ?_
  refine AllReadyH.cons (o := { dst := some 18, op := Op.box 73 (Operand.tmp 17), type := 59, pos := "l8_fingers.go:65", after := #[{ on := 2, ground := Ground.data }], guard := none }) rfl (fun K hK => ?_) AllReadyH.nil
  go_simp
  have bx := (Below.refl w2.drew.heap.size w2.drew).alloc (Nat.le_refl _) (.cells #[.slice a2 s.fTypes.length s.fTypes.length, .int .u32 0, .int .i32 0, .int .u32 0, .slice none 0 0] 73)
  have TS3 := Lib.hid (show TS s.fTypes a2 s.fTypes.length w2.heap.size (.slice none 0 0) (w2.drew.alloc (.cells #[.slice a2 s.fTypes.length s.fTypes.length, .int .u32 0, .int .i32 0, .int .u32 0, .slice none 0 0] 73)) from ⟨0, Box.new w2.drew _ _, .inl ⟨rfl, rfl⟩⟩)
  have HO := Lib.hid (iObjectSum s.fTypes a2 s.fTypes.length w2.heap.size (.slice none 0 0) ob0 pa pc _ TS3.out hl24 HRt.out (R3.out.types.apart bx (Nat.le_refl _)) HOt.out (HPR.out.apart bx (Nat.le_refl _)))
  have BX := Lib.hid bx
  clear bx
  refine hK.out _ _ ?_ (fun hHeld2 => ?_)
  · try dsimp only
    exact ⟨(Y0.out.below BX.out Y0.out.lt).cell 2, (Y0.out.below BX.out Y0.out.lt).cell 3, (cellKeep BX.out o0), (cellKeep BX.out o1), (cellKeep BX.out o2), (cellKeep BX.out o3), (cellKeep BX.out o4), (cellKeep BX.out o5)⟩
  clear hK K hHeld
  have hHeld := hHeld2
  clear hHeld2
  try simp only [Act.put, List.setIfInBounds_toArray, List.set_cons_zero, List.set_cons_succ]
  refine wpAnyH_ready (rs := [9]) (by kernel_rfl) (by simp) ?_
  refine AllReadyH.cons (o := { dst := some 24, op := Op.call { callee := Callee.value (Operand.func 26), args := #[Operand.tmp 18, Operand.tmp 23], argTypes := #[59, 52] }, type := 3, pos := "l8_fingers.go:65", after := #[{ on := 3, ground := Ground.data }, { on := 8, ground := Ground.data }], guard := none }) rfl (fun K hK => ?_) AllReadyH.nil
  go_simp
  go_at_call 26
  refine HO.out.mono ?_
  rintro e w4 ⟨rfl, v4, _, ho4⟩
  have B4 := Lib.hid (show Below w2.drew.heap.size w2.drew w4 from BX.out.trans (ho4.below (Nat.le_refl _) (by simp)))
  have B5 := Lib.hid (B3.out.trans (B4.out.mono B3.out.size))
  clear ho4
  refine hK.out _ _ ?_ (fun hHeld2 => ?_)
  · try dsimp only
    exact ⟨(Y0.out.below B4.out Y0.out.lt).cell 2, (Y0.out.below B4.out Y0.out.lt).cell 3, (cellKeep B4.out o0), (cellKeep B4.out o1), (cellKeep B4.out o2), (cellKeep B4.out o3), (cellKeep B4.out o4), (cellKeep B4.out o5)⟩
  clear hK K hHeld
  have hHeld := hHeld2
  clear hHeld2
  try simp only [Act.put, List.setIfInBounds_toArray, List.set_cons_zero, List.set_cons_succ]
  refine wpAnyH_take (i := 10) (oi := { dst := some 4, op := Op.assign (Operand.tmp 24), type := 3, pos := "l8_fingers.go:65", after := #[{ on := 9, ground := Ground.data }, { on := 9, ground := Ground.chain }, { on := 0, ground := Ground.phase }, { on := 1, ground := Ground.phase }, { on := 2, ground := Ground.phase }, { on := 3, ground := Ground.phase }, { on := 4, ground := Ground.phase }, { on := 5, ground := Ground.phase }, { on := 6, ground := Ground.phase }, { on := 7, ground := Ground.phase }, { on := 8, ground := Ground.phase }, { on := 9, ground := Ground.phase }], guard := none }) (v := .int .i64 (objZ (roundsZ s.fTypes 25) ob0)) rfl (by kernel_rfl) (by kernel_rfl) (by kernel_rfl) (fun _ _ _ h => h) (Or.inl ⟨by rfl, ?_⟩) (by assumption) ?_
  · intro wS hSw
    try dsimp only at hSw
    go_simp
  try simp only [Act.put, List.setIfInBounds_toArray, List.set_cons_zero, List.set_cons_succ]
  refine wpAnyH_take (i := 11) (oi := { dst := some 5, op := Op.assign (Operand.const (Value.bool true)), type := 4, pos := "l8_fingers.go:65", after := #[{ on := 10, ground := Ground.chain }, { on := 0, ground := Ground.phase }, { on := 1, ground := Ground.phase }, { on := 2, ground := Ground.phase }, { on := 3, ground := Ground.phase }, { on := 4, ground := Ground.phase }, { on := 5, ground := Ground.phase }, { on := 6, ground := Ground.phase }, { on := 7, ground := Ground.phase }, { on := 8, ground := Ground.phase }, { on := 9, ground := Ground.phase }, { on := 10, ground := Ground.phase }], guard := none }) (v := .bool true) rfl (by kernel_rfl) (by kernel_rfl) (by kernel_rfl) (fun _ _ _ h => h) (Or.inl ⟨by rfl, ?_⟩) (by assumption) ?_
  · intro wS hSw
    try dsimp only at hSw
    go_simp
  try simp only [Act.put, List.setIfInBounds_toArray, List.set_cons_zero, List.set_cons_succ]
  refine wpAnyH_done (by kernel_rfl) ?_ _
  --OF>
  go_wp2_with fail
  go_ret2
  exact ⟨by rw [HQ.out.1, HQ.out.2]; rfl, B5.out⟩
end Go.Proofs.YtllddjmcemcdhaaGreat
