
/-
  What is proved: the sum of an object; the contract of the program's objectSum. No condition beside what each theorem states.
-/
import Derived.Test.YtllddjmcemcdhaaGreatSums
import Derived.Test.YtllddjmcemcdhaaGreatStObject
namespace Go.Proofs.YtllddjmcemcdhaaGreat
open Go.ChangeShapes Go.WideShapes Go.ChangeAt Go.RowKit
set_option maxRecDepth 100000

def byZ : Bool → Int
  | true => 1
  | false => 0
/-- The numbers of a param, of some, of an object; and its sum. -/
def parZ (T : List Int) (p : ParamD) : List Int := [textZ p.fName, byZ p.fByVar, tyZ T p.fType]
def parsZ (T : List Int) (ps : List ParamD) : List Int := ps.flatMap (parZ T)
def objL (T : List Int) (o : ObjectD) : List Int := [textZ o.fName, o.fKind, o.fMark, o.fValue, tyZ T o.fType] ++ parsZ T o.fParams
def objZ (T : List Int) (o : ObjectD) : Int := mixL (objL T o)
theorem parsZ_zero (T : List Int) (ps : List ParamD) : parsZ T (ps.take 0) = [] := by simp [parsZ]
theorem parsZ_next (T : List Int) {ps : List ParamD} {k : Nat} (h : k < ps.length) : parsZ T (ps.take (k + 1)) = parsZ T (ps.take k) ++ parZ T ps[k] := by
  unfold parsZ
  rw [List.take_succ_eq_append_getElem h, List.flatMap_append]
  simp
theorem parsZ_len (T : List Int) : ∀ ps : List ParamD, (parsZ T ps).length = 3 * ps.length
  | [] => rfl
  | p :: ps => by
    have := parsZ_len T ps
    unfold parsZ at this ⊢
    rw [List.flatMap_cons, List.length_append, this, List.length_cons]
    simp [parZ]
    omega
/-- What an object may be, for its sum. -/
structure OT (n : Nat) (o : ObjectD) : Prop where
  name : o.fName.size ≤ 200
  type : o.fType = -1 ∨ (0 ≤ o.fType ∧ o.fType < (n : Int))
  few : o.fParams.length ≤ 4
  params : ∀ i (h : i < o.fParams.length), o.fParams[i].fName.size ≤ 200 ∧ 0 ≤ o.fParams[i].fType ∧ o.fParams[i].fType < (n : Int)
theorem iByVarN (nm : ByteArray) (bv : Bool) (ty : Int) (w : World) : Calls Tryz.prog 57 #[.agg #[.string nm, .bool bv, .int .i64 ty]] w fun e w' => e = .returned (.int .i64 (byZ bv)) ∧ Below w.heap.size w w' := by
  cases bv
  all_goals
    go_enter Tryz.func57, Tryz.ntmps57
    go_wp2_with fail
    go_ret
    exact ⟨rfl, (Below.refl _ _).alloc (Nat.le_refl _) _⟩
/-- append of some numbers, and where the row lies behind it. -/
theorem step_pushIntsV {ops : Array Oper} {o : Oper} {a : Act} {K : Act → World → Prop} {Q : Exit → Act → World → Prop} {E : Prop} (hgd : o.guard = none) (s x : Operand)
    (ho : o.op = .call { callee := .builtin .append, args := #[s, x], argTypes := #[48, 48] })
    (B : Nat) (w : World) (v : Value) (l : List Int) (hs : a.eval s = v) (hown : OwnInts w B v l) (m : List Int) (g n c : Nat) (hx : a.eval x = .slice (some ⟨g, 0, none⟩) n c) (hn : n = m.length) (hg : Box w g 3 (m.map (Value.int .i64)).toArray) (hm : 0 < m.length)
    (h63 : l.length + m.length ≤ 1048577 + 1048576) (hbase : B ≤ w.heap.size)
    (h : ∀ g' c' w', OwnInts w' B (.slice (some ⟨g', 0, none⟩) (l.length + m.length) c') (l ++ m) → w.grownBy w' v.ownBlock → (v.ownBlock = some g' ∨ g' = w.heap.size) → K (a.put o.dst (.slice (some ⟨g', 0, none⟩) (l.length + m.length) c')) w') : if Region.wanted o (yielded ops a.tmps) = true then Oper.wp Tryz.prog o a w K Q else E := by
  subst hn
  obtain ⟨i0, hi, hz0, hz1, hz2⟩ := info_parts infoInt
  refine step_append_lies w hgd s x 48 ho B 3 i0 _ 1 8 Tryz.underlying48 hi hz0 hz1 hz2 rfl (by decide) v l.length (l.map (Value.int .i64)) hs hown ⟨g, 0, none⟩ m.length c (m.map (Value.int .i64)) hx (by simp) ?_
    (fun y hy => by
      obtain ⟨z, _, rfl⟩ := List.mem_map.1 hy
      rfl) hm (by unfold maxLen; omega) (by omega) hbase _ rfl (fun g' cap w' h1 h2 h3 _ => h g' cap w' (by unfold OwnInts; rw [List.map_append, List.length_append]; exact h1) h2 h3)
  intro j u' hu
  have e : (⟨g, 0, none⟩ : Addr).add j = ⟨g, j, none⟩ := by unfold Addr.add; split <;> simp_all
  rw [e, hg.cell]
  simpa using hu
theorem TS.below {l : List TypeD} {a : Option Addr} {c g : Nat} {v : Value} {w w' : World} (h : TS l a c g v w) (hb : Below w.heap.size w w') : TS l a c g v w' := by
  obtain ⟨d, h1, h2⟩ := h.box
  exact ⟨d, h1.below hb h1.lt, h2.imp id (fun h => ⟨h.1, h.2.below hb⟩)⟩
theorem TS.drew {l : List TypeD} {a : Option Addr} {c g : Nat} {v : Value} {w : World} (h : TS l a c g v w) : TS l a c g v w.drew := h.below ⟨rfl, rfl, rfl, Nat.le_refl _, fun _ _ => rfl⟩
theorem TS.lt {l : List TypeD} {a : Option Addr} {c g : Nat} {v : Value} {w : World} (h : TS l a c g v w) : g < w.heap.size ∧ ∀ k, v.ownBlock = some k → g + 1 ≤ k ∧ k < w.heap.size := by
  obtain ⟨d, h1, h2⟩ := h.box
  refine ⟨h1.lt, fun k hk => ?_⟩
  rcases h2 with ⟨_, rfl⟩ | ⟨_, h⟩
  · cases hk
  · exact World.ownsRow.lt h k hk
theorem TS.grown {l : List TypeD} {a : Option Addr} {c g : Nat} {v : Value} {w w' : World} {r : Option Nat} (h : TS l a c g v w) (hg : w.grownBy w' r) (h1 : r ≠ some g) (h2 : ∀ k, v.ownBlock = some k → r ≠ some k) : TS l a c g v w' := by
  obtain ⟨d, hb, hd⟩ := h.box
  have hl := h.lt
  exact ⟨d, (hg.block g hb.lt (fun e => h1 e.symm)).trans hb, hd.imp id (fun h => ⟨h.1, h.2.keep (fun k hk => hg.block k (hl.2 k hk).2 (fun e => h2 k hk e.symm))⟩)⟩

theorem onlyGrown {g : Nat} {w w' w'' : World} {row : Option Nat} (h : Only g w w') (hg : w'.grownBy w'' row) (hr : ∀ r, row = some r → w.heap.size ≤ r) : Only g w w'' :=
  ⟨hg.os.trans h.os, hg.tape.trans h.tape, hg.output.trans h.output, Nat.le_trans h.size hg.size, fun k hk hne => (hg.block k (Nat.lt_of_lt_of_le hk h.size) (fun e => by have := hr k e.symm; omega)).trans (h.block k hk hne)⟩

set_option maxHeartbeats 16000000 in
theorem iObjectSum (l : List TypeD) (a : Option Addr) (c g : Nat) (v0 : Value) (o : ObjectD) (pa : Option Addr) (pc : Nat) (w : World) (hts : TS l a c g v0 w) (hl : l.length ≤ 24) (hrt : ∀ n (h : n < l.length), RT l.length l[n]) (hr : Rows typeS (fun q => q ≠ g) w a l) (hot : OT l.length o) (hp : Rows paramS (fun q => q ≠ g) w pa o.fParams) :
    Calls Tryz.prog 26 #[.pointer (some ⟨g, 0, none⟩), .agg #[.string o.fName, .int .i64 o.fKind, .int .i64 o.fMark, .int .i64 o.fType, .int .i64 o.fValue, .slice pa o.fParams.length pc]] w fun e w' => e = .returned (.int .i64 (objZ (roundsZ l 25) o)) ∧ ∃ v', TS l a c g v' w' ∧ Only g w w' := by
  have hgl := hts.lt.1
  have B0 := (Below.refl w.heap.size w).alloc (Nat.le_refl _) (.cells #[.string o.fName, .int .i64 o.fKind, .int .i64 o.fMark, .int .i64 o.fType, .int .i64 o.fValue, .slice pa o.fParams.length pc] 52)
  have L0 := Lib.hid (show Only g w (w.alloc (.cells #[.string o.fName, .int .i64 o.fKind, .int .i64 o.fMark, .int .i64 o.fType, .int .i64 o.fValue, .slice pa o.fParams.length pc] 52)).drew from (onlyS B0).drew)
  have X0 := Lib.hid (show Box (w.alloc (.cells #[.string o.fName, .int .i64 o.fKind, .int .i64 o.fMark, .int .i64 o.fType, .int .i64 o.fValue, .slice pa o.fParams.length pc] 52)).drew w.heap.size 52 #[.string o.fName, .int .i64 o.fKind, .int .i64 o.fMark, .int .i64 o.fType, .int .i64 o.fValue, .slice pa o.fParams.length pc] from (Box.new w _ _).drewN 1)
  have T0 := Lib.hid (show TS l a c g v0 (w.alloc (.cells #[.string o.fName, .int .i64 o.fKind, .int .i64 o.fMark, .int .i64 o.fType, .int .i64 o.fValue, .slice pa o.fParams.length pc] 52)).drew from (hts.below B0).drew)
  have HRw := Lib.hid hr
  have HPw := Lib.hid hp
  have HOT := Lib.hid hot
  have HTx := Lib.hid (fun s (hs : s.size ≤ 200) W => iTextSum s W hs)
  have HOf := Lib.hid (fun (v : Value) (n : Int) (W : World) (h1 : TS l a c g v W) (h2 : Only g w W) (hn : n = -1 ∨ (0 ≤ n ∧ n < (l.length : Int))) => iOf l a c g v n W h1 hl hrt (hr.keep (fun b hb hlt => h2.block b hlt (fun e => by injection e with e; exact hb e)) h2.size) hn)
  have hlen := roundsZ_len l 25
  have Hz := Lib.hid (show objZ (roundsZ l 25) o = mixTo ([textZ o.fName, o.fKind, o.fMark, o.fValue, tyZ (roundsZ l 25) o.fType] ++ parsZ (roundsZ l 25) o.fParams) ([textZ o.fName, o.fKind, o.fMark, o.fValue, tyZ (roundsZ l 25) o.fType] ++ parsZ (roundsZ l 25) o.fParams).length from rfl)
  have hyg : w.heap.size ≠ g := by omega
  generalize roundsZ l 25 = T at *
  obtain ⟨objZ0, hz0⟩ : ∃ z, z = objZ T o := ⟨_, rfl⟩
  rw [← hz0] at Hz ⊢
  clear hts hr hp hrt B0 hlen hz0
  go_enter Tryz.func26, Tryz.ntmps26
  go_wp2_with fail
  --OA<
  refine wp_region_held_drew (S := fun w' => w'.cell? ⟨w.heap.size, 0, none⟩ = some (.string o.fName) ∧ w'.cell? ⟨w.heap.size, 1, none⟩ = some (.int .i64 o.fKind) ∧ w'.cell? ⟨w.heap.size, 2, none⟩ = some (.int .i64 o.fMark) ∧ w'.cell? ⟨w.heap.size, 3, none⟩ = some (.int .i64 o.fType) ∧ w'.cell? ⟨w.heap.size, 4, none⟩ = some (.int .i64 o.fValue) ∧ w'.cell? ⟨w.heap.size, 5, none⟩ = some (.slice pa o.fParams.length pc)) (by kernel_rfl) ?_ (fun hHeld => ?_)
  · try dsimp only
    exact ⟨X0.out.cell 0, X0.out.cell 1, X0.out.cell 2, X0.out.cell 3, X0.out.cell 4, X0.out.cell 5⟩
  refine wpAnyH_take (i := 0) (oi := { dst := some 8, op := Op.fieldAddr 52 (Operand.tmp 3) 0, type := 0, pos := "l8_fingers.go:161", after := #[], guard := none }) (v := .pointer (some ⟨w.heap.size, 0, none⟩)) rfl (by kernel_rfl) (by kernel_rfl) (by kernel_rfl) (fun _ _ _ h => h) (Or.inl ⟨by rfl, ?_⟩) (by assumption) ?_
  · intro wS hSw
    try dsimp only at hSw
    go_simp
  try simp only [Act.put, List.setIfInBounds_toArray, List.set_cons_zero, List.set_cons_succ]
  refine wpAnyH_take (i := 1) (oi := { dst := some 9, op := Op.load 9 (Operand.tmp 8), type := 9, pos := "l8_fingers.go:161", after := #[{ on := 0, ground := Ground.data }], guard := none }) (v := .string o.fName) rfl (by kernel_rfl) (by kernel_rfl) (by kernel_rfl) (fun _ _ _ h => h) (Or.inl ⟨by rfl, ?_⟩) (by assumption) ?_
  · intro wS hSw
    try dsimp only at hSw
    go_simp
  try simp only [Act.put, List.setIfInBounds_toArray, List.set_cons_zero, List.set_cons_succ]
  refine wpAnyH_take (i := 3) (oi := { dst := some 11, op := Op.fieldAddr 52 (Operand.tmp 3) 1, type := 0, pos := "l8_fingers.go:161", after := #[], guard := none }) (v := .pointer (some ⟨w.heap.size, 1, none⟩)) rfl (by kernel_rfl) (by kernel_rfl) (by kernel_rfl) (fun _ _ _ h => h) (Or.inl ⟨by rfl, ?_⟩) (by assumption) ?_
  · intro wS hSw
    try dsimp only at hSw
    go_simp
  try simp only [Act.put, List.setIfInBounds_toArray, List.set_cons_zero, List.set_cons_succ]
  refine wpAnyH_take (i := 4) (oi := { dst := some 12, op := Op.load 3 (Operand.tmp 11), type := 3, pos := "l8_fingers.go:161", after := #[{ on := 3, ground := Ground.data }], guard := none }) (v := .int .i64 o.fKind) rfl (by kernel_rfl) (by kernel_rfl) (by kernel_rfl) (fun _ _ _ h => h) (Or.inl ⟨by rfl, ?_⟩) (by assumption) ?_
  · intro wS hSw
    try dsimp only at hSw
    go_simp
  try simp only [Act.put, List.setIfInBounds_toArray, List.set_cons_zero, List.set_cons_succ]
  refine wpAnyH_take (i := 5) (oi := { dst := some 13, op := Op.fieldAddr 52 (Operand.tmp 3) 2, type := 0, pos := "l8_fingers.go:161", after := #[], guard := none }) (v := .pointer (some ⟨w.heap.size, 2, none⟩)) rfl (by kernel_rfl) (by kernel_rfl) (by kernel_rfl) (fun _ _ _ h => h) (Or.inl ⟨by rfl, ?_⟩) (by assumption) ?_
  · intro wS hSw
    try dsimp only at hSw
    go_simp
  try simp only [Act.put, List.setIfInBounds_toArray, List.set_cons_zero, List.set_cons_succ]
  refine wpAnyH_take (i := 6) (oi := { dst := some 14, op := Op.load 3 (Operand.tmp 13), type := 3, pos := "l8_fingers.go:161", after := #[{ on := 5, ground := Ground.data }], guard := none }) (v := .int .i64 o.fMark) rfl (by kernel_rfl) (by kernel_rfl) (by kernel_rfl) (fun _ _ _ h => h) (Or.inl ⟨by rfl, ?_⟩) (by assumption) ?_
  · intro wS hSw
    try dsimp only at hSw
    go_simp
  try simp only [Act.put, List.setIfInBounds_toArray, List.set_cons_zero, List.set_cons_succ]
  refine wpAnyH_take (i := 7) (oi := { dst := some 15, op := Op.fieldAddr 52 (Operand.tmp 3) 4, type := 0, pos := "l8_fingers.go:161", after := #[], guard := none }) (v := .pointer (some ⟨w.heap.size, 4, none⟩)) rfl (by kernel_rfl) (by kernel_rfl) (by kernel_rfl) (fun _ _ _ h => h) (Or.inl ⟨by rfl, ?_⟩) (by assumption) ?_
  · intro wS hSw
    try dsimp only at hSw
    go_simp
  try simp only [Act.put, List.setIfInBounds_toArray, List.set_cons_zero, List.set_cons_succ]
  refine wpAnyH_take (i := 8) (oi := { dst := some 16, op := Op.load 3 (Operand.tmp 15), type := 3, pos := "l8_fingers.go:161", after := #[{ on := 7, ground := Ground.data }], guard := none }) (v := .int .i64 o.fValue) rfl (by kernel_rfl) (by kernel_rfl) (by kernel_rfl) (fun _ _ _ h => h) (Or.inl ⟨by rfl, ?_⟩) (by assumption) ?_
  · intro wS hSw
    try dsimp only at hSw
    go_simp
  try simp only [Act.put, List.setIfInBounds_toArray, List.set_cons_zero, List.set_cons_succ]
  refine wpAnyH_take (i := 9) (oi := { dst := some 17, op := Op.move (Operand.tmp 0), type := 59, pos := "l8_fingers.go:161", after := #[], guard := none }) (v := .pointer (some ⟨g, 0, none⟩)) rfl (by kernel_rfl) (by kernel_rfl) (by kernel_rfl) (fun _ _ _ h => h) (Or.inl ⟨by rfl, ?_⟩) (by assumption) ?_
  · intro wS hSw
    try dsimp only at hSw
    go_simp
  try simp only [Act.put, List.setIfInBounds_toArray, List.set_cons_zero, List.set_cons_succ]
  refine wpAnyH_take (i := 10) (oi := { dst := some 18, op := Op.fieldAddr 52 (Operand.tmp 3) 3, type := 0, pos := "l8_fingers.go:161", after := #[], guard := none }) (v := .pointer (some ⟨w.heap.size, 3, none⟩)) rfl (by kernel_rfl) (by kernel_rfl) (by kernel_rfl) (fun _ _ _ h => h) (Or.inl ⟨by rfl, ?_⟩) (by assumption) ?_
  · intro wS hSw
    try dsimp only at hSw
    go_simp
  try simp only [Act.put, List.setIfInBounds_toArray, List.set_cons_zero, List.set_cons_succ]
  refine wpAnyH_take (i := 11) (oi := { dst := some 19, op := Op.load 3 (Operand.tmp 18), type := 3, pos := "l8_fingers.go:161", after := #[{ on := 10, ground := Ground.data }], guard := none }) (v := .int .i64 o.fType) rfl (by kernel_rfl) (by kernel_rfl) (by kernel_rfl) (fun _ _ _ h => h) (Or.inl ⟨by rfl, ?_⟩) (by assumption) ?_
  · intro wS hSw
    try dsimp only at hSw
    go_simp
  try simp only [Act.put, List.setIfInBounds_toArray, List.set_cons_zero, List.set_cons_succ]
  refine wpAnyH_ready (rs := [2]) (by kernel_rfl) (by simp) ?_
  refine AllReadyH.cons (o := { dst := some 10, op := Op.call { callee := Callee.value (Operand.func 55), args := #[Operand.tmp 9], argTypes := #[9] }, type := 3, pos := "l8_fingers.go:161", after := #[{ on := 1, ground := Ground.data }], guard := none }) rfl (fun K hK => ?_) AllReadyH.nil
  go_simp
  go_at_call 55
  refine (HTx.out _ HOT.out.name _).mono ?_
  rintro e w1 ⟨rfl, hb1⟩
  have X1 := Lib.hid (X0.out.below hb1 X0.out.lt)
  have T1 := Lib.hid (T0.out.below hb1)
  have L1 := Lib.hid (L0.out.trans (onlyS hb1))
  clear hb1
  refine hK.out _ _ ?_ (fun hHeld2 => ?_)
  · try dsimp only
    exact ⟨X1.out.cell 0, X1.out.cell 1, X1.out.cell 2, X1.out.cell 3, X1.out.cell 4, X1.out.cell 5⟩
  clear hK K hHeld
  have hHeld := hHeld2
  clear hHeld2
  try simp only [Act.put, List.setIfInBounds_toArray, List.set_cons_zero, List.set_cons_succ]
  refine wpAnyH_ready (rs := [12]) (by kernel_rfl) (by simp) ?_
  refine AllReadyH.cons (o := { dst := some 20, op := Op.call { callee := Callee.value (Operand.func 56), args := #[Operand.tmp 17, Operand.tmp 19], argTypes := #[59, 3] }, type := 3, pos := "l8_fingers.go:161", after := #[{ on := 9, ground := Ground.data }, { on := 11, ground := Ground.data }, { on := 2, ground := Ground.chain }], guard := none }) rfl (fun K hK => ?_) AllReadyH.nil
  go_simp
  go_at_call 56
  refine (HOf.out _ _ _ T1.out L1.out HOT.out.type).mono ?_
  rintro e w2 ⟨rfl, v2, ht2, _, ho2⟩
  have X2 := Lib.hid (show Box w2 w.heap.size 52 _ from (ho2.block w.heap.size X1.out.lt (fun e => by injection e with e; exact hyg e)).trans X1.out)
  have T2 := Lib.hid ht2
  have L2 := Lib.hid (L1.out.trans ho2)
  clear ht2 ho2
  refine hK.out _ _ ?_ (fun hHeld2 => ?_)
  · try dsimp only
    exact ⟨X2.out.cell 0, X2.out.cell 1, X2.out.cell 2, X2.out.cell 3, X2.out.cell 4, X2.out.cell 5⟩
  clear hK K hHeld
  have hHeld := hHeld2
  clear hHeld2
  try simp only [Act.put, List.setIfInBounds_toArray, List.set_cons_zero, List.set_cons_succ]
  refine wpAnyH_ready (rs := [13]) (by kernel_rfl) (by simp) ?_
  refine AllReadyH.cons (o := { dst := some 21, op := Op.buildSlice 48 5 #[(0, Operand.tmp 10), (1, Operand.tmp 12), (2, Operand.tmp 14), (3, Operand.tmp 16), (4, Operand.tmp 20)], type := 48, pos := "l8_fingers.go:161", after := #[{ on := 2, ground := Ground.data }, { on := 4, ground := Ground.data }, { on := 6, ground := Ground.data }, { on := 8, ground := Ground.data }, { on := 12, ground := Ground.data }], guard := none }) rfl (fun K hK => ?_) AllReadyH.nil
  go_simp
  have N3 := Lib.hid (Box.new w2 3 #[.int .i64 (textZ o.fName), .int .i64 o.fKind, .int .i64 o.fMark, .int .i64 o.fValue, .int .i64 (tyZ T o.fType)])
  have X3 := Lib.hid (X2.out.alloc (.cells #[.int .i64 (textZ o.fName), .int .i64 o.fKind, .int .i64 o.fMark, .int .i64 o.fValue, .int .i64 (tyZ T o.fType)] 3))
  have bb3 := (Below.refl w2.heap.size w2).alloc (Nat.le_refl _) (.cells #[.int .i64 (textZ o.fName), .int .i64 o.fKind, .int .i64 o.fMark, .int .i64 o.fValue, .int .i64 (tyZ T o.fType)] 3)
  have T3 := Lib.hid (T2.out.below bb3)
  have L3 := Lib.hid (L2.out.trans (onlyS bb3))
  clear bb3
  refine hK.out _ _ ?_ (fun hHeld2 => ?_)
  · try dsimp only
    exact ⟨X3.out.cell 0, X3.out.cell 1, X3.out.cell 2, X3.out.cell 3, X3.out.cell 4, X3.out.cell 5⟩
  clear hK K hHeld
  have hHeld := hHeld2
  clear hHeld2
  try simp only [Act.put, List.setIfInBounds_toArray, List.set_cons_zero, List.set_cons_succ]
  refine wpAnyH_take (i := 14) (oi := { dst := some 5, op := Op.assign (Operand.tmp 21), type := 48, pos := "l8_fingers.go:161", after := #[{ on := 13, ground := Ground.data }, { on := 12, ground := Ground.chain }, { on := 0, ground := Ground.phase }, { on := 1, ground := Ground.phase }, { on := 2, ground := Ground.phase }, { on := 3, ground := Ground.phase }, { on := 4, ground := Ground.phase }, { on := 5, ground := Ground.phase }, { on := 6, ground := Ground.phase }, { on := 7, ground := Ground.phase }, { on := 8, ground := Ground.phase }, { on := 9, ground := Ground.phase }, { on := 10, ground := Ground.phase }, { on := 11, ground := Ground.phase }, { on := 12, ground := Ground.phase }, { on := 13, ground := Ground.phase }], guard := none }) (v := .slice (some ⟨w2.heap.size, 0, none⟩) 5 5) rfl (by kernel_rfl) (by kernel_rfl) (by kernel_rfl) (fun _ _ _ h => h) (Or.inl ⟨by rfl, ?_⟩) (by assumption) ?_
  · intro wS hSw
    try dsimp only at hSw
    go_simp
  try simp only [Act.put, List.setIfInBounds_toArray, List.set_cons_zero, List.set_cons_succ]
  refine wpAnyH_done (by kernel_rfl) ?_ _
  --OA>
  have O3 := Lib.hid (show OwnInts (w2.alloc (.cells #[.int .i64 (textZ o.fName), .int .i64 o.fKind, .int .i64 o.fMark, .int .i64 o.fValue, .int .i64 (tyZ T o.fType)] 3)) w.heap.size (.slice (some ⟨w2.heap.size, 0, none⟩) 5 5) [textZ o.fName, o.fKind, o.fMark, o.fValue, tyZ T o.fType] from OwnInts.ofBox (l := [textZ o.fName, o.fKind, o.fMark, o.fValue, tyZ T o.fType]) N3.out L2.out.size (by unfold maxLen; simp))
  have D3 := Lib.hid (show ∀ k, v2.ownBlock = some k → (Value.slice (some ⟨w2.heap.size, 0, none⟩) 5 5).ownBlock ≠ some k from fun k hk he => by
    rw [ownBlock_slice] at he
    injection he with he
    have := (T2.out.lt.2 k hk).2
    try simp at he
    omega)
  have x5 := X3.out.cell 5
  simp at x5
  generalize w2.alloc (.cells #[.int .i64 (textZ o.fName), .int .i64 o.fKind, .int .i64 o.fMark, .int .i64 o.fValue, .int .i64 (tyZ T o.fType)] 3) = wz at *
  generalize w2.heap.size = nb at *
  have hfew := HOT.out.few
  clear X0 X1 X2 X3 T0 T1 T2 L0 L1 L2 N3
  go_wp2_with fail
  clear x5
  obtain ⟨BL, hBL⟩ : ∃ x, x = [textZ o.fName, o.fKind, o.fMark, o.fValue, tyZ T o.fType] := ⟨_, rfl⟩
  have hbl5 : BL.length = 5 := by rw [hBL]; rfl
  rw [← hBL] at O3 Hz
  clear hBL
  go_loopw [5, 25] (fun v i wr => ∃ (k : Nat) (tv : Value), i = .int .i64 k ∧ k ≤ o.fParams.length ∧ OwnInts wr w.heap.size v (BL ++ parsZ T (o.fParams.take k)) ∧ TS l a c g tv wr ∧ Only g w wr ∧ (∀ n, tv.ownBlock = some n → v.ownBlock ≠ some n)) (fun _ i _ => o.fParams.length - (intOf i).toNat)
  case atStart => exact ⟨0, v2, rfl, by omega, by rw [parsZ_zero, List.append_nil]; exact O3.out, T3.out, L3.out, D3.out⟩
  case round =>
    obtain ⟨V5, hV5⟩ : ∃ x, x = u5 := ⟨_, rfl⟩
    subst hV5
    obtain ⟨wo, hwo⟩ : ∃ y, y = wr := ⟨_, rfl⟩
    subst hwo
    obtain ⟨k, tv, rfl, hk, hown, hts, hon, hd⟩ := hrel
    by_cases hlt : k < o.fParams.length
    · obtain ⟨b, po, cs, hpa, hbq, hb1, hc1, hat⟩ := HPw.out k hlt
      obtain rfl : cs = [.string o.fParams[k].fName, .bool o.fParams[k].fByVar, .int .i64 o.fParams[k].fType] := hat
      subst hpa
      have hcw := fun (j : Nat) => World.cell?_of_block (a := ⟨b, j, none⟩) (hon.block b hb1 (fun e => by injection e with e; exact hbq e))
      have e0 := (hcw (po + k * 3 + 0)).trans (hc1 0 (by decide))
      have e1 := (hcw (po + k * 3 + 1)).trans (hc1 1 (by decide))
      have e2 := (hcw (po + k * 3 + 2)).trans (hc1 2 (by decide))
      simp at e0 e1 e2
      have HQ := Lib.hid (HOT.out.params k hlt)
      have Hnx := Lib.hid (show BL ++ parsZ T (o.fParams.take (k + 1)) = BL ++ parsZ T (o.fParams.take k) ++ parZ T o.fParams[k] by rw [parsZ_next T hlt, List.append_assoc])
      obtain ⟨na, nn, nc, hform⟩ := hown.form
      subst hform
      obtain ⟨NL, hNL⟩ : ∃ x, x = BL ++ parsZ T (o.fParams.take k) := ⟨_, rfl⟩
      have hnl : NL.length ≤ 17 := by rw [hNL, List.length_append, hbl5, parsZ_len, List.length_take]; omega
      rw [← hNL] at hown Hnx
      have hwg : g < wo.heap.size := hts.lt.1
      generalize o.fParams[k] = q at *
      have hlen4 : NL.length + (parZ T q).length ≤ 1048577 + 1048576 := by have : (parZ T q).length = 3 := rfl; omega
      have hba := (Below.refl wo.heap.size wo).alloc (Nat.le_refl _) (.cells #[.string q.fName, .bool q.fByVar, .int .i64 q.fType] 106)
      have XB := Lib.hid (show Box (wo.alloc (.cells #[.string q.fName, .bool q.fByVar, .int .i64 q.fType] 106)).drew wo.heap.size 106 #[.string q.fName, .bool q.fByVar, .int .i64 q.fType] from (Box.new wo _ _).drewN 1)
      have TB := Lib.hid (show TS l a c g tv (wo.alloc (.cells #[.string q.fName, .bool q.fByVar, .int .i64 q.fType] 106)).drew from (hts.below hba).drew)
      have LB := Lib.hid (show Only g w (wo.alloc (.cells #[.string q.fName, .bool q.fByVar, .int .i64 q.fType] 106)).drew from (hon.trans (onlyS hba)).drew)
      have NB := Lib.hid (show OwnInts (wo.alloc (.cells #[.string q.fName, .bool q.fByVar, .int .i64 q.fType] 106)).drew w.heap.size (.slice na nn nc) NL from (hown.below hba).drew1)
      have HD := Lib.hid hd
      have hnyb : ∀ k, (Value.slice na nn nc).ownBlock = some k → k = wo.heap.size → False := fun k hk e => by have := (World.ownsRow.lt hown k hk).2; omega
      have hybg : wo.heap.size ≠ g := by omega
      clear hown hts hon hd hc1 hcw hba
      go_wp2_with fail
      generalize (wo.alloc (.cells #[.string q.fName, .bool q.fByVar, .int .i64 q.fType] 106)) = wq at *
      --OB<
      refine wp_region_held_drew (S := fun w' => w'.cell? ⟨wo.heap.size, 0, none⟩ = some (.string q.fName) ∧ w'.cell? ⟨wo.heap.size, 1, none⟩ = some (.bool q.fByVar) ∧ w'.cell? ⟨wo.heap.size, 2, none⟩ = some (.int .i64 q.fType)) (by kernel_rfl) ?_ (fun hHeld => ?_)
      · try dsimp only
        exact ⟨XB.out.cell 0, XB.out.cell 1, XB.out.cell 2⟩
      refine wpAnyH_take (i := 0) (oi := { dst := some 29, op := Op.move (Operand.tmp 5), type := 48, pos := "l8_fingers.go:163", after := #[], guard := none }) (v := .slice na nn nc) rfl (by kernel_rfl) (by kernel_rfl) (by kernel_rfl) (fun _ _ _ h => h) (Or.inl ⟨by rfl, ?_⟩) (by assumption) ?_
      · intro wS hSw
        try dsimp only at hSw
        go_simp
      try simp only [Act.put, List.setIfInBounds_toArray, List.set_cons_zero, List.set_cons_succ]
      refine wpAnyH_take (i := 1) (oi := { dst := some 30, op := Op.fieldAddr 106 (Operand.tmp 7) 0, type := 0, pos := "l8_fingers.go:163", after := #[], guard := none }) (v := .pointer (some ⟨wo.heap.size, 0, none⟩)) rfl (by kernel_rfl) (by kernel_rfl) (by kernel_rfl) (fun _ _ _ h => h) (Or.inl ⟨by rfl, ?_⟩) (by assumption) ?_
      · intro wS hSw
        try dsimp only at hSw
        go_simp
      try simp only [Act.put, List.setIfInBounds_toArray, List.set_cons_zero, List.set_cons_succ]
      refine wpAnyH_take (i := 2) (oi := { dst := some 31, op := Op.load 9 (Operand.tmp 30), type := 9, pos := "l8_fingers.go:163", after := #[{ on := 1, ground := Ground.data }], guard := none }) (v := .string q.fName) rfl (by kernel_rfl) (by kernel_rfl) (by kernel_rfl) (fun _ _ _ h => h) (Or.inl ⟨by rfl, ?_⟩) (by assumption) ?_
      · intro wS hSw
        try dsimp only at hSw
        go_simp
      try simp only [Act.put, List.setIfInBounds_toArray, List.set_cons_zero, List.set_cons_succ]
      refine wpAnyH_take (i := 4) (oi := { dst := some 33, op := Op.load 106 (Operand.tmp 7), type := 106, pos := "l8_fingers.go:163", after := #[], guard := none }) (v := .agg #[.string q.fName, .bool q.fByVar, .int .i64 q.fType]) rfl (by kernel_rfl) (by kernel_rfl) (by kernel_rfl) (fun _ _ _ h => h) (Or.inl ⟨by rfl, ?_⟩) (by assumption) ?_
      · intro wS hSw
        try dsimp only at hSw
        go_simp
      try simp only [Act.put, List.setIfInBounds_toArray, List.set_cons_zero, List.set_cons_succ]
      refine wpAnyH_take (i := 6) (oi := { dst := some 35, op := Op.move (Operand.tmp 0), type := 59, pos := "l8_fingers.go:163", after := #[], guard := none }) (v := .pointer (some ⟨g, 0, none⟩)) rfl (by kernel_rfl) (by kernel_rfl) (by kernel_rfl) (fun _ _ _ h => h) (Or.inl ⟨by rfl, ?_⟩) (by assumption) ?_
      · intro wS hSw
        try dsimp only at hSw
        go_simp
      try simp only [Act.put, List.setIfInBounds_toArray, List.set_cons_zero, List.set_cons_succ]
      refine wpAnyH_take (i := 7) (oi := { dst := some 36, op := Op.fieldAddr 106 (Operand.tmp 7) 2, type := 0, pos := "l8_fingers.go:163", after := #[], guard := none }) (v := .pointer (some ⟨wo.heap.size, 2, none⟩)) rfl (by kernel_rfl) (by kernel_rfl) (by kernel_rfl) (fun _ _ _ h => h) (Or.inl ⟨by rfl, ?_⟩) (by assumption) ?_
      · intro wS hSw
        try dsimp only at hSw
        go_simp
      try simp only [Act.put, List.setIfInBounds_toArray, List.set_cons_zero, List.set_cons_succ]
      refine wpAnyH_take (i := 8) (oi := { dst := some 37, op := Op.load 3 (Operand.tmp 36), type := 3, pos := "l8_fingers.go:163", after := #[{ on := 7, ground := Ground.data }], guard := none }) (v := .int .i64 q.fType) rfl (by kernel_rfl) (by kernel_rfl) (by kernel_rfl) (fun _ _ _ h => h) (Or.inl ⟨by rfl, ?_⟩) (by assumption) ?_
      · intro wS hSw
        try dsimp only at hSw
        go_simp
      try simp only [Act.put, List.setIfInBounds_toArray, List.set_cons_zero, List.set_cons_succ]
      refine wpAnyH_ready (rs := [3]) (by kernel_rfl) (by simp) ?_
      refine AllReadyH.cons (o := { dst := some 32, op := Op.call { callee := Callee.value (Operand.func 55), args := #[Operand.tmp 31], argTypes := #[9] }, type := 3, pos := "l8_fingers.go:163", after := #[{ on := 2, ground := Ground.data }], guard := none }) rfl (fun K hK => ?_) AllReadyH.nil
      go_simp
      go_at_call 55
      refine (HTx.out _ HQ.out.1 _).mono ?_
      rintro e w1 ⟨rfl, hb1⟩
      have X1 := Lib.hid (XB.out.below hb1 XB.out.lt)
      have T1 := Lib.hid (TB.out.below hb1)
      have L1 := Lib.hid (LB.out.trans (onlyS hb1))
      have N1 := Lib.hid (NB.out.below hb1)
      have s1 := hb1.size
      clear hb1
      refine hK.out _ _ ?_ (fun hHeld2 => ?_)
      · try dsimp only
        exact ⟨X1.out.cell 0, X1.out.cell 1, X1.out.cell 2⟩
      clear hK K hHeld
      have hHeld := hHeld2
      clear hHeld2
      try simp only [Act.put, List.setIfInBounds_toArray, List.set_cons_zero, List.set_cons_succ]
      refine wpAnyH_ready (rs := [5]) (by kernel_rfl) (by simp) ?_
      refine AllReadyH.cons (o := { dst := some 34, op := Op.call { callee := Callee.value (Operand.func 57), args := #[Operand.tmp 33], argTypes := #[106] }, type := 3, pos := "l8_fingers.go:163", after := #[{ on := 4, ground := Ground.data }, { on := 3, ground := Ground.chain }], guard := none }) rfl (fun K hK => ?_) AllReadyH.nil
      go_simp
      go_at_call 57
      refine (iByVarN _ _ _ _).mono ?_
      rintro e w2 ⟨rfl, hb2⟩
      have X2 := Lib.hid (X1.out.below hb2 X1.out.lt)
      have T2 := Lib.hid (T1.out.below hb2)
      have L2 := Lib.hid (L1.out.trans (onlyS hb2))
      have N2 := Lib.hid (N1.out.below hb2)
      have s2 := Nat.le_trans s1 hb2.size
      clear hb2
      refine hK.out _ _ ?_ (fun hHeld2 => ?_)
      · try dsimp only
        exact ⟨X2.out.cell 0, X2.out.cell 1, X2.out.cell 2⟩
      clear hK K hHeld
      have hHeld := hHeld2
      clear hHeld2
      try simp only [Act.put, List.setIfInBounds_toArray, List.set_cons_zero, List.set_cons_succ]
      refine wpAnyH_ready (rs := [9]) (by kernel_rfl) (by simp) ?_
      refine AllReadyH.cons (o := { dst := some 38, op := Op.call { callee := Callee.value (Operand.func 56), args := #[Operand.tmp 35, Operand.tmp 37], argTypes := #[59, 3] }, type := 3, pos := "l8_fingers.go:163", after := #[{ on := 6, ground := Ground.data }, { on := 8, ground := Ground.data }, { on := 5, ground := Ground.chain }], guard := none }) rfl (fun K hK => ?_) AllReadyH.nil
      go_simp
      go_at_call 56
      refine (HOf.out _ _ _ T2.out L2.out (.inr HQ.out.2)).mono ?_
      rintro e w3 ⟨rfl, v3, ht3, hv3, ho3⟩
      have X3 := Lib.hid (show Box w3 wo.heap.size 106 _ from (ho3.block wo.heap.size X2.out.lt (fun e => by injection e with e; exact hybg e)).trans X2.out)
      have T3 := Lib.hid ht3
      have L3 := Lib.hid (L2.out.trans ho3)
      have nlt := World.ownsRow.lt N2.out
      have N3 := Lib.hid (N2.out.keep (fun k hk => ho3.block k (nlt k hk).2 (fun e => by injection e with e; have := (nlt k hk).1; omega)))
      have D3 := Lib.hid (show ∀ k, v3.ownBlock = some k → (Value.slice na nn nc).ownBlock ≠ some k from fun k hk he => by rcases hv3 with rfl | h <;> first | exact HD.out k hk he | exact absurd (h k hk) (by have := (nlt k he).2; omega))
      have s3 := Nat.le_trans s2 ho3.size
      clear ht3 ho3 hv3
      refine hK.out _ _ ?_ (fun hHeld2 => ?_)
      · try dsimp only
        exact ⟨X3.out.cell 0, X3.out.cell 1, X3.out.cell 2⟩
      clear hK K hHeld
      have hHeld := hHeld2
      clear hHeld2
      try simp only [Act.put, List.setIfInBounds_toArray, List.set_cons_zero, List.set_cons_succ]
      refine wpAnyH_ready (rs := [10]) (by kernel_rfl) (by simp) ?_
      refine AllReadyH.cons (o := { dst := some 39, op := Op.buildSlice 48 3 #[(0, Operand.tmp 32), (1, Operand.tmp 34), (2, Operand.tmp 38)], type := 48, pos := "l8_fingers.go:163", after := #[{ on := 3, ground := Ground.data }, { on := 5, ground := Ground.data }, { on := 9, ground := Ground.data }], guard := none }) rfl (fun K hK => ?_) AllReadyH.nil
      go_simp
      have N4 := Lib.hid (Box.new w3 3 #[.int .i64 (textZ q.fName), .int .i64 (byZ q.fByVar), .int .i64 (tyZ T q.fType)])
      have X4 := Lib.hid (X3.out.alloc (.cells #[.int .i64 (textZ q.fName), .int .i64 (byZ q.fByVar), .int .i64 (tyZ T q.fType)] 3))
      have bb4 := (Below.refl w3.heap.size w3).alloc (Nat.le_refl _) (.cells #[.int .i64 (textZ q.fName), .int .i64 (byZ q.fByVar), .int .i64 (tyZ T q.fType)] 3)
      have T4 := Lib.hid (T3.out.below bb4)
      have L4 := Lib.hid (L3.out.trans (onlyS bb4))
      have M4 := Lib.hid (N3.out.below bb4)
      have s4 := Nat.le_trans s3 bb4.size
      clear bb4
      refine hK.out _ _ ?_ (fun hHeld2 => ?_)
      · try dsimp only
        exact ⟨X4.out.cell 0, X4.out.cell 1, X4.out.cell 2⟩
      clear hK K hHeld
      have hHeld := hHeld2
      clear hHeld2
      try simp only [Act.put, List.setIfInBounds_toArray, List.set_cons_zero, List.set_cons_succ]
      refine wpAnyH_ready (rs := [11]) (by kernel_rfl) (by simp) ?_
      refine AllReadyH.cons (o := { dst := some 40, op := Op.call { callee := Callee.builtin Builtin.append, args := #[Operand.tmp 29, Operand.tmp 39], argTypes := #[48, 48] }, type := 48, pos := "l8_fingers.go:163", after := #[{ on := 0, ground := Ground.data }, { on := 10, ground := Ground.data }, { on := 9, ground := Ground.chain }], guard := none }) rfl (fun K hK => ?_) AllReadyH.nil
      refine step_pushIntsV rfl _ _ rfl w.heap.size _ (.slice na nn nc) NL rfl M4.out (parZ T q) _ _ _ rfl rfl N4.out (by simp [parZ]) hlen4 L4.out.size ?_
      intro g5 c5 w5 hown5 hg5 hne5
      have X5 := Lib.hid (box_grown X4.out hg5 (fun k hk => by have := (nlt k hk).2; have := X2.out.lt; intro e; exact hnyb k hk e))
      have T5 := Lib.hid (T4.out.grown hg5 (fun e => by have := (nlt g e).1; omega) (fun k hk e => D3.out k hk e))
      have L5 := Lib.hid (show Only g w w5 from onlyGrown L4.out hg5 (fun r hr => (nlt r hr).1))
      have O5 := Lib.hid hown5
      have D5 := Lib.hid (show ∀ k, v3.ownBlock = some k → (Value.slice (some ⟨g5, 0, none⟩) (NL.length + (parZ T q).length) c5).ownBlock ≠ some k from fun k hk he => by rw [ownBlock_slice] at he; injection he with he; have he2 : g5 = k := he; have hlt3 := (T3.out.lt.2 k hk).2; rcases hne5 with h | h <;> first | exact D3.out k hk (he2 ▸ h) | (simp at h; omega))
      clear hown5 hg5 hne5
      refine hK.out _ _ ?_ (fun hHeld2 => ?_)
      · try dsimp only
        exact ⟨X5.out.cell 0, X5.out.cell 1, X5.out.cell 2⟩
      clear hK K hHeld
      have hHeld := hHeld2
      clear hHeld2
      try simp only [Act.put, List.setIfInBounds_toArray, List.set_cons_zero, List.set_cons_succ]
      refine wpAnyH_take (i := 12) (oi := { dst := some 5, op := Op.assign (Operand.tmp 40), type := 48, pos := "l8_fingers.go:163", after := #[{ on := 11, ground := Ground.data }, { on := 11, ground := Ground.chain }, { on := 0, ground := Ground.phase }, { on := 1, ground := Ground.phase }, { on := 2, ground := Ground.phase }, { on := 3, ground := Ground.phase }, { on := 4, ground := Ground.phase }, { on := 5, ground := Ground.phase }, { on := 6, ground := Ground.phase }, { on := 7, ground := Ground.phase }, { on := 8, ground := Ground.phase }, { on := 9, ground := Ground.phase }, { on := 10, ground := Ground.phase }, { on := 11, ground := Ground.phase }], guard := none }) (v := .slice (some ⟨g5, 0, none⟩) (NL.length + (parZ T q).length) c5) rfl (by kernel_rfl) (by kernel_rfl) (by kernel_rfl) (fun _ _ _ h => h) (Or.inl ⟨by rfl, ?_⟩) (by assumption) ?_
      · intro wS hSw
        try dsimp only at hSw
        go_simp
      try simp only [Act.put, List.setIfInBounds_toArray, List.set_cons_zero, List.set_cons_succ]
      refine wpAnyH_done (by kernel_rfl) ?_ _
      --OB>
      go_wp2_with fail
      exact ⟨⟨k + 1, v3, by congr 1, by omega, by rw [Hnx.out]; exact O5.out, T5.out, L5.out, D5.out⟩, by simp [intOf]; omega⟩
    · obtain rfl : k = o.fParams.length := by omega
      rw [List.take_length] at hown
      obtain ⟨na, nc, hform, _, hnn⟩ := hown.nums
      subst hform
      have HT := Lib.hid hts
      have HL := Lib.hid hon
      have hll : (BL ++ parsZ T o.fParams).length ≤ 200 := by rw [List.length_append, hbl5, parsZ_len]; omega
      have HN := Lib.hid hnn
      have HZ2 := Lib.hid (show objZ0 = mixL (BL ++ parsZ T o.fParams) from Hz.out)
      clear hnn
      generalize BL ++ parsZ T o.fParams = NL at *
      clear hown hts hon hd Hz
      go_wp2_with fail
      refine (iMixed na nc _ _ hll HN.out.ints).mono ?_
      rintro e w' ⟨rfl, rfl⟩
      go_wp2_with fail
      go_ret
      exact ⟨by rw [HZ2.out]; rfl, tv, HT.out, HL.out⟩
end Go.Proofs.YtllddjmcemcdhaaGreat
