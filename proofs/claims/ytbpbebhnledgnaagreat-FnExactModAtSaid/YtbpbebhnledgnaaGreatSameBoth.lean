
/-
  What is proved: contracts of the model's l4SameType, l4SameObject. No condition beside what each theorem states.
-/
import Derived.Test.YtbpbebhnledgnaaGreatSameParts
import Derived.Test.YtbpbebhnledgnaaGreatSameFuncs
namespace Go.Proofs.YtbpbebhnledgnaaGreat
open Go.ChangeShapes Go.WideShapes Go.ChangeAt Go.RowKit

set_option maxRecDepth 100000 in
set_option maxHeartbeats 16000000 in
theorem sSameType (t u : TypeD) (a3 b3 : Option Addr) (c3 d3 : Nat) (w : World) (hl : t.fFields.length ≤ 1048576) (hr : Rows fieldS Any w a3 t.fFields) (hr' : Rows fieldS Any w b3 u.fFields) :
    Calls Tryz.prog 88 #[.agg #[.int .i64 t.fKind, .int .i64 t.fLong, .int .i64 t.fBase, .slice a3 t.fFields.length c3, .string t.fOwner, .string t.fName], .agg #[.int .i64 u.fKind, .int .i64 u.fLong, .int .i64 u.fBase, .slice b3 u.fFields.length d3, .string u.fOwner, .string u.fName]] w fun e w' => e = .returned (.bool (eqB t u)) ∧ Below w.heap.size w w' := by
  have HB := Lib.hid (((Below.refl w.heap.size w).alloc (Nat.le_refl _) (.cells #[.int .i64 t.fKind, .int .i64 t.fLong, .int .i64 t.fBase, .slice a3 t.fFields.length c3, .string t.fOwner, .string t.fName] 101)).alloc (by simp) (.cells #[.int .i64 u.fKind, .int .i64 u.fLong, .int .i64 u.fBase, .slice b3 u.fFields.length d3, .string u.fOwner, .string u.fName] 101))
  have Hr := Lib.hid (hr.below HB.out)
  have Hr' := Lib.hid (hr'.below HB.out)
  have HX := Lib.hid ((Box.new w 101 #[.int .i64 t.fKind, .int .i64 t.fLong, .int .i64 t.fBase, .slice a3 t.fFields.length c3, .string t.fOwner, .string t.fName]).alloc (.cells #[.int .i64 u.fKind, .int .i64 u.fLong, .int .i64 u.fBase, .slice b3 u.fFields.length d3, .string u.fOwner, .string u.fName] 101))
  have HY := Lib.hid (Box.new' (w.alloc (.cells #[.int .i64 t.fKind, .int .i64 t.fLong, .int .i64 t.fBase, .slice a3 t.fFields.length c3, .string t.fOwner, .string t.fName] 101)) 101 #[.int .i64 u.fKind, .int .i64 u.fLong, .int .i64 u.fBase, .slice b3 u.fFields.length d3, .string u.fOwner, .string u.fName] (g := w.heap.size + 1) (by simp))
  clear hr hr'
  obtain ⟨t0, t1, t2, t3, t4, t5⟩ := t
  obtain ⟨y0, y1, y2, y3, y4, y5⟩ := u
  simp only at *
  by_cases p0 : t0 = y0
  case neg =>
    have Hv := Lib.hid (eqB_false (t := (⟨t0, t1, t2, t3, t4, t5⟩ : TypeD)) (u := ⟨y0, y1, y2, y3, y4, y5⟩) (fun e => p0 (by cases e; rfl)))
    have g0 : (t0 == y0) = false := beq_eq_false_iff_ne.2 p0
    go_enter Tryz.func88, Tryz.ntmps88
    go_wp2_with fail
    go_ret
    exact ⟨by rw [Hv.out]; rfl, HB.out⟩
  subst p0
  by_cases p1 : t1 = y1
  case neg =>
    have Hv := Lib.hid (eqB_false (t := (⟨t0, t1, t2, t3, t4, t5⟩ : TypeD)) (u := ⟨t0, y1, y2, y3, y4, y5⟩) (fun e => p1 (by cases e; rfl)))
    have g1 : (t1 == y1) = false := beq_eq_false_iff_ne.2 p1
    go_enter Tryz.func88, Tryz.ntmps88
    go_wp2_with fail
    go_ret
    exact ⟨by rw [Hv.out]; rfl, HB.out⟩
  subst p1
  by_cases p2 : t2 = y2
  case neg =>
    have Hv := Lib.hid (eqB_false (t := (⟨t0, t1, t2, t3, t4, t5⟩ : TypeD)) (u := ⟨t0, t1, y2, y3, y4, y5⟩) (fun e => p2 (by cases e; rfl)))
    have g2 : (t2 == y2) = false := beq_eq_false_iff_ne.2 p2
    go_enter Tryz.func88, Tryz.ntmps88
    go_wp2_with fail
    go_ret
    exact ⟨by rw [Hv.out]; rfl, HB.out⟩
  subst p2
  by_cases p3 : t4 = y4
  case neg =>
    have Hv := Lib.hid (eqB_false (t := (⟨t0, t1, t2, t3, t4, t5⟩ : TypeD)) (u := ⟨t0, t1, t2, y3, y4, y5⟩) (fun e => p3 (by cases e; rfl)))
    have g3 := bytes_same t4 y4 false (by simp [p3])
    clear p3
    go_enter Tryz.func88, Tryz.ntmps88
    go_wp2_with fail
    go_ret
    exact ⟨by rw [Hv.out]; rfl, HB.out⟩
  subst p3
  by_cases p4 : t5 = y5
  case neg =>
    have Hv := Lib.hid (eqB_false (t := (⟨t0, t1, t2, t3, t4, t5⟩ : TypeD)) (u := ⟨t0, t1, t2, y3, t4, y5⟩) (fun e => p4 (by cases e; rfl)))
    have g4 := bytes_same t5 y5 false (by simp [p4])
    clear p4
    go_enter Tryz.func88, Tryz.ntmps88
    go_wp2_with fail
    go_ret
    exact ⟨by rw [Hv.out]; rfl, HB.out⟩
  subst p4
  by_cases p5 : t3.length = y3.length
  case neg =>
    have Hv := Lib.hid (eqB_false (t := (⟨t0, t1, t2, t3, t4, t5⟩ : TypeD)) (u := ⟨t0, t1, t2, y3, t4, t5⟩) (fun e => p5 (by cases e; rfl)))
    have g5 : ¬ (t3.length : Int) = (y3.length : Int) := by omega
    go_enter Tryz.func88, Tryz.ntmps88
    go_wp2_with fail
    go_ret
    exact ⟨by rw [Hv.out]; rfl, HB.out⟩
  have PL := Lib.hid p5
  rw [← p5] at HB Hr Hr' HX HY ⊢
  have Hall := Lib.hid (show t3 = y3 → eqB (⟨t0, t1, t2, t3, t4, t5⟩ : TypeD) ⟨t0, t1, t2, y3, t4, t5⟩ = true from fun h => eqB_true (by subst h; rfl))
  clear p5
  go_enter Tryz.func88, Tryz.ntmps88
  go_wp2_with fail
  go_loopw [51] (fun i wr => ∃ k : Nat, i = .int .i64 k ∧ k ≤ t3.length ∧ agreeTo t3 y3 k ∧ Below ((w.alloc (.cells #[.int .i64 t0, .int .i64 t1, .int .i64 t2, .slice a3 t3.length c3, .string t4, .string t5] 101)).alloc (.cells #[.int .i64 t0, .int .i64 t1, .int .i64 t2, .slice b3 t3.length d3, .string t4, .string t5] 101)).heap.size ((w.alloc (.cells #[.int .i64 t0, .int .i64 t1, .int .i64 t2, .slice a3 t3.length c3, .string t4, .string t5] 101)).alloc (.cells #[.int .i64 t0, .int .i64 t1, .int .i64 t2, .slice b3 t3.length d3, .string t4, .string t5] 101)) wr) (fun i _ => t3.length - (intOf i).toNat)
  case atStart => exact ⟨0, rfl, by omega, agree_zero, Below.refl _ _⟩
  case round =>
    obtain ⟨k, rfl, hk, hto, hbel⟩ := hrel
    have Hto := Lib.hid hto
    clear hto
    have hwz : ((w.alloc (.cells #[.int .i64 t0, .int .i64 t1, .int .i64 t2, .slice a3 t3.length c3, .string t4, .string t5] 101)).alloc (.cells #[.int .i64 t0, .int .i64 t1, .int .i64 t2, .slice b3 t3.length d3, .string t4, .string t5] 101)).heap.size ≤ ((w.alloc (.cells #[.int .i64 t0, .int .i64 t1, .int .i64 t2, .slice a3 t3.length c3, .string t4, .string t5] 101)).alloc (.cells #[.int .i64 t0, .int .i64 t1, .int .i64 t2, .slice b3 t3.length d3, .string t4, .string t5] 101)).heap.size := Nat.le_refl _
    by_cases hlt : k < t3.length
    · have hlt' : k < y3.length := by rw [← PL.out]; exact hlt
      have x := (HX.out.below hbel HX.out.lt).cell 3
      have y := (HY.out.below hbel HY.out.lt).cell 3
      simp at x y
      obtain ⟨b, o, cs, hba, _, hb1, hc1, hat⟩ := Hr.out k hlt
      obtain ⟨b', o', cs', hba', _, hb1', hc1', hat'⟩ := Hr'.out k hlt'
      subst hba
      subst hba'
      obtain rfl : cs = [.string t3[k].fName, .int .i64 t3[k].fMark, .int .i64 t3[k].fType] := hat
      obtain rfl : cs' = [.string y3[k].fName, .int .i64 y3[k].fMark, .int .i64 y3[k].fType] := hat'
      have hn : fieldS.n = 3 := rfl
      have e0 := (hbel.cell (p := ⟨b, o + k * 3 + 0, none⟩) (Nat.lt_of_lt_of_le hb1 hwz)).trans (hc1 0 (by decide))
      have q0 := (hbel.cell (p := ⟨b', o' + k * 3 + 0, none⟩) (Nat.lt_of_lt_of_le hb1' hwz)).trans (hc1' 0 (by decide))
      have e1 := (hbel.cell (p := ⟨b, o + k * 3 + 1, none⟩) (Nat.lt_of_lt_of_le hb1 hwz)).trans (hc1 1 (by decide))
      have q1 := (hbel.cell (p := ⟨b', o' + k * 3 + 1, none⟩) (Nat.lt_of_lt_of_le hb1' hwz)).trans (hc1' 1 (by decide))
      have e2 := (hbel.cell (p := ⟨b, o + k * 3 + 2, none⟩) (Nat.lt_of_lt_of_le hb1 hwz)).trans (hc1 2 (by decide))
      have q2 := (hbel.cell (p := ⟨b', o' + k * 3 + 2, none⟩) (Nat.lt_of_lt_of_le hb1' hwz)).trans (hc1' 2 (by decide))
      simp at e0 q0 e1 q1 e2 q2
      clear hc1 hc1'
      have Hbad := Lib.hid (show ¬ t3[k] = y3[k] → eqB (⟨t0, t1, t2, t3, t4, t5⟩ : TypeD) ⟨t0, t1, t2, y3, t4, t5⟩ = false from fun h => eqB_false (fun e => h (by cases e; rfl)))
      have Hnx := Lib.hid (fun h => agree_next hlt hlt' Hto.out h)
      have i1 : (0 : Int) ≤ (k : Int) := by omega
      have i2 : (k : Int) < (t3.length : Int) := by omega
      have Hbel := Lib.hid hbel
      clear hbel hwz
      generalize t3[k] = f at *
      generalize y3[k] = g at *
      clear hlt'
      have heq := eqField f.fName f.fMark f.fType g.fName g.fMark g.fType
      by_cases he : f = g
      · rw [field_bool.2 he] at heq
        have Hn := Lib.hid (Hnx.out he)
        clear he
        go_wp2_with fail
        go_quiet (fail)
        go_wp2_with fail
        go_round
        case rel => exact ⟨k + 1, by go_num, by omega, Hn.out, belowN Hbel.out _⟩
        case measure => simp [intOf]; omega
      · rw [Bool.eq_false_iff.2 (fun h => he (field_bool.1 h))] at heq
        have Hv := Lib.hid (Hbad.out he)
        clear he
        go_wp2_with fail
        go_quiet (fail)
        go_wp2_with fail
        go_ret
        exact ⟨by rw [Hv.out]; rfl, HB.out.trans ((belowN Hbel.out _).mono HB.out.size)⟩
    · have Hv := Lib.hid (Hall.out (List.ext_getElem PL.out fun i h1 h2 => Hto.out i h1 h2 (by omega)))
      have Hbel := Lib.hid hbel
      clear hbel
      go_wp2_with fail
      go_ret
      exact ⟨by rw [Hv.out]; rfl, HB.out.trans (Hbel.out.mono HB.out.size)⟩

set_option maxRecDepth 100000 in
set_option maxHeartbeats 16000000 in
theorem sSameObject (t u : ObjectD) (a3 b3 : Option Addr) (c3 d3 : Nat) (w : World) (hl : t.fParams.length ≤ 1048576) (hr : Rows paramS Any w a3 t.fParams) (hr' : Rows paramS Any w b3 u.fParams) :
    Calls Tryz.prog 89 #[.agg #[.string t.fName, .int .i64 t.fKind, .int .i64 t.fMark, .int .i64 t.fType, .int .i64 t.fValue, .slice a3 t.fParams.length c3], .agg #[.string u.fName, .int .i64 u.fKind, .int .i64 u.fMark, .int .i64 u.fType, .int .i64 u.fValue, .slice b3 u.fParams.length d3]] w fun e w' => e = .returned (.bool (eqB t u)) ∧ Below w.heap.size w w' := by
  have HB := Lib.hid (((Below.refl w.heap.size w).alloc (Nat.le_refl _) (.cells #[.string t.fName, .int .i64 t.fKind, .int .i64 t.fMark, .int .i64 t.fType, .int .i64 t.fValue, .slice a3 t.fParams.length c3] 86)).alloc (by simp) (.cells #[.string u.fName, .int .i64 u.fKind, .int .i64 u.fMark, .int .i64 u.fType, .int .i64 u.fValue, .slice b3 u.fParams.length d3] 86))
  have Hr := Lib.hid (hr.below HB.out)
  have Hr' := Lib.hid (hr'.below HB.out)
  have HX := Lib.hid ((Box.new w 86 #[.string t.fName, .int .i64 t.fKind, .int .i64 t.fMark, .int .i64 t.fType, .int .i64 t.fValue, .slice a3 t.fParams.length c3]).alloc (.cells #[.string u.fName, .int .i64 u.fKind, .int .i64 u.fMark, .int .i64 u.fType, .int .i64 u.fValue, .slice b3 u.fParams.length d3] 86))
  have HY := Lib.hid (Box.new' (w.alloc (.cells #[.string t.fName, .int .i64 t.fKind, .int .i64 t.fMark, .int .i64 t.fType, .int .i64 t.fValue, .slice a3 t.fParams.length c3] 86)) 86 #[.string u.fName, .int .i64 u.fKind, .int .i64 u.fMark, .int .i64 u.fType, .int .i64 u.fValue, .slice b3 u.fParams.length d3] (g := w.heap.size + 1) (by simp))
  clear hr hr'
  obtain ⟨t0, t1, t2, t3, t4, t5⟩ := t
  obtain ⟨y0, y1, y2, y3, y4, y5⟩ := u
  simp only at *
  by_cases p0 : t0 = y0
  case neg =>
    have Hv := Lib.hid (eqB_false (t := (⟨t0, t1, t2, t3, t4, t5⟩ : ObjectD)) (u := ⟨y0, y1, y2, y3, y4, y5⟩) (fun e => p0 (by cases e; rfl)))
    have g0 := bytes_same t0 y0 false (by simp [p0])
    clear p0
    go_enter Tryz.func89, Tryz.ntmps89
    go_wp2_with fail
    go_ret
    exact ⟨by rw [Hv.out]; rfl, HB.out⟩
  subst p0
  by_cases p1 : t1 = y1
  case neg =>
    have Hv := Lib.hid (eqB_false (t := (⟨t0, t1, t2, t3, t4, t5⟩ : ObjectD)) (u := ⟨t0, y1, y2, y3, y4, y5⟩) (fun e => p1 (by cases e; rfl)))
    have g1 : (t1 == y1) = false := beq_eq_false_iff_ne.2 p1
    go_enter Tryz.func89, Tryz.ntmps89
    go_wp2_with fail
    go_ret
    exact ⟨by rw [Hv.out]; rfl, HB.out⟩
  subst p1
  by_cases p2 : t2 = y2
  case neg =>
    have Hv := Lib.hid (eqB_false (t := (⟨t0, t1, t2, t3, t4, t5⟩ : ObjectD)) (u := ⟨t0, t1, y2, y3, y4, y5⟩) (fun e => p2 (by cases e; rfl)))
    have g2 : (t2 == y2) = false := beq_eq_false_iff_ne.2 p2
    go_enter Tryz.func89, Tryz.ntmps89
    go_wp2_with fail
    go_ret
    exact ⟨by rw [Hv.out]; rfl, HB.out⟩
  subst p2
  by_cases p3 : t3 = y3
  case neg =>
    have Hv := Lib.hid (eqB_false (t := (⟨t0, t1, t2, t3, t4, t5⟩ : ObjectD)) (u := ⟨t0, t1, t2, y3, y4, y5⟩) (fun e => p3 (by cases e; rfl)))
    have g3 : (t3 == y3) = false := beq_eq_false_iff_ne.2 p3
    go_enter Tryz.func89, Tryz.ntmps89
    go_wp2_with fail
    go_ret
    exact ⟨by rw [Hv.out]; rfl, HB.out⟩
  subst p3
  by_cases p4 : t4 = y4
  case neg =>
    have Hv := Lib.hid (eqB_false (t := (⟨t0, t1, t2, t3, t4, t5⟩ : ObjectD)) (u := ⟨t0, t1, t2, t3, y4, y5⟩) (fun e => p4 (by cases e; rfl)))
    have g4 : (t4 == y4) = false := beq_eq_false_iff_ne.2 p4
    go_enter Tryz.func89, Tryz.ntmps89
    go_wp2_with fail
    go_ret
    exact ⟨by rw [Hv.out]; rfl, HB.out⟩
  subst p4
  by_cases p5 : t5.length = y5.length
  case neg =>
    have Hv := Lib.hid (eqB_false (t := (⟨t0, t1, t2, t3, t4, t5⟩ : ObjectD)) (u := ⟨t0, t1, t2, t3, t4, y5⟩) (fun e => p5 (by cases e; rfl)))
    have g5 : ¬ (t5.length : Int) = (y5.length : Int) := by omega
    go_enter Tryz.func89, Tryz.ntmps89
    go_wp2_with fail
    go_ret
    exact ⟨by rw [Hv.out]; rfl, HB.out⟩
  have PL := Lib.hid p5
  rw [← p5] at HB Hr Hr' HX HY ⊢
  have Hall := Lib.hid (show t5 = y5 → eqB (⟨t0, t1, t2, t3, t4, t5⟩ : ObjectD) ⟨t0, t1, t2, t3, t4, y5⟩ = true from fun h => eqB_true (by subst h; rfl))
  clear p5
  go_enter Tryz.func89, Tryz.ntmps89
  go_wp2_with fail
  go_loopw [51] (fun i wr => ∃ k : Nat, i = .int .i64 k ∧ k ≤ t5.length ∧ agreeTo t5 y5 k ∧ Below ((w.alloc (.cells #[.string t0, .int .i64 t1, .int .i64 t2, .int .i64 t3, .int .i64 t4, .slice a3 t5.length c3] 86)).alloc (.cells #[.string t0, .int .i64 t1, .int .i64 t2, .int .i64 t3, .int .i64 t4, .slice b3 t5.length d3] 86)).heap.size ((w.alloc (.cells #[.string t0, .int .i64 t1, .int .i64 t2, .int .i64 t3, .int .i64 t4, .slice a3 t5.length c3] 86)).alloc (.cells #[.string t0, .int .i64 t1, .int .i64 t2, .int .i64 t3, .int .i64 t4, .slice b3 t5.length d3] 86)) wr) (fun i _ => t5.length - (intOf i).toNat)
  case atStart => exact ⟨0, rfl, by omega, agree_zero, Below.refl _ _⟩
  case round =>
    obtain ⟨k, rfl, hk, hto, hbel⟩ := hrel
    have Hto := Lib.hid hto
    clear hto
    have hwz : ((w.alloc (.cells #[.string t0, .int .i64 t1, .int .i64 t2, .int .i64 t3, .int .i64 t4, .slice a3 t5.length c3] 86)).alloc (.cells #[.string t0, .int .i64 t1, .int .i64 t2, .int .i64 t3, .int .i64 t4, .slice b3 t5.length d3] 86)).heap.size ≤ ((w.alloc (.cells #[.string t0, .int .i64 t1, .int .i64 t2, .int .i64 t3, .int .i64 t4, .slice a3 t5.length c3] 86)).alloc (.cells #[.string t0, .int .i64 t1, .int .i64 t2, .int .i64 t3, .int .i64 t4, .slice b3 t5.length d3] 86)).heap.size := Nat.le_refl _
    by_cases hlt : k < t5.length
    · have hlt' : k < y5.length := by rw [← PL.out]; exact hlt
      have x := (HX.out.below hbel HX.out.lt).cell 5
      have y := (HY.out.below hbel HY.out.lt).cell 5
      simp at x y
      obtain ⟨b, o, cs, hba, _, hb1, hc1, hat⟩ := Hr.out k hlt
      obtain ⟨b', o', cs', hba', _, hb1', hc1', hat'⟩ := Hr'.out k hlt'
      subst hba
      subst hba'
      obtain rfl : cs = [.string t5[k].fName, .bool t5[k].fByVar, .int .i64 t5[k].fType] := hat
      obtain rfl : cs' = [.string y5[k].fName, .bool y5[k].fByVar, .int .i64 y5[k].fType] := hat'
      have hn : paramS.n = 3 := rfl
      have e0 := (hbel.cell (p := ⟨b, o + k * 3 + 0, none⟩) (Nat.lt_of_lt_of_le hb1 hwz)).trans (hc1 0 (by decide))
      have q0 := (hbel.cell (p := ⟨b', o' + k * 3 + 0, none⟩) (Nat.lt_of_lt_of_le hb1' hwz)).trans (hc1' 0 (by decide))
      have e1 := (hbel.cell (p := ⟨b, o + k * 3 + 1, none⟩) (Nat.lt_of_lt_of_le hb1 hwz)).trans (hc1 1 (by decide))
      have q1 := (hbel.cell (p := ⟨b', o' + k * 3 + 1, none⟩) (Nat.lt_of_lt_of_le hb1' hwz)).trans (hc1' 1 (by decide))
      have e2 := (hbel.cell (p := ⟨b, o + k * 3 + 2, none⟩) (Nat.lt_of_lt_of_le hb1 hwz)).trans (hc1 2 (by decide))
      have q2 := (hbel.cell (p := ⟨b', o' + k * 3 + 2, none⟩) (Nat.lt_of_lt_of_le hb1' hwz)).trans (hc1' 2 (by decide))
      simp at e0 q0 e1 q1 e2 q2
      clear hc1 hc1'
      have Hbad := Lib.hid (show ¬ t5[k] = y5[k] → eqB (⟨t0, t1, t2, t3, t4, t5⟩ : ObjectD) ⟨t0, t1, t2, t3, t4, y5⟩ = false from fun h => eqB_false (fun e => h (by cases e; rfl)))
      have Hnx := Lib.hid (fun h => agree_next hlt hlt' Hto.out h)
      have i1 : (0 : Int) ≤ (k : Int) := by omega
      have i2 : (k : Int) < (t5.length : Int) := by omega
      have Hbel := Lib.hid hbel
      clear hbel hwz
      generalize t5[k] = f at *
      generalize y5[k] = g at *
      clear hlt'
      have heq := eqParam f.fName f.fByVar f.fType g.fName g.fByVar g.fType
      by_cases he : f = g
      · rw [param_bool.2 he] at heq
        have Hn := Lib.hid (Hnx.out he)
        clear he
        go_wp2_with fail
        go_quiet (fail)
        go_wp2_with fail
        go_round
        case rel => exact ⟨k + 1, by go_num, by omega, Hn.out, belowN Hbel.out _⟩
        case measure => simp [intOf]; omega
      · rw [Bool.eq_false_iff.2 (fun h => he (param_bool.1 h))] at heq
        have Hv := Lib.hid (Hbad.out he)
        clear he
        go_wp2_with fail
        go_quiet (fail)
        go_wp2_with fail
        go_ret
        exact ⟨by rw [Hv.out]; rfl, HB.out.trans ((belowN Hbel.out _).mono HB.out.size)⟩
    · have Hv := Lib.hid (Hall.out (List.ext_getElem PL.out fun i h1 h2 => Hto.out i h1 h2 (by omega)))
      have Hbel := Lib.hid hbel
      clear hbel
      go_wp2_with fail
      go_ret
      exact ⟨by rw [Hv.out]; rfl, HB.out.trans (Hbel.out.mono HB.out.size)⟩
end Go.Proofs.YtbpbebhnledgnaaGreat
