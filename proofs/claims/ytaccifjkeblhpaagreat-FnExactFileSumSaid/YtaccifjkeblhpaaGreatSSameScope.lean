
/-
  What is proved: contracts of the model's l4SameType, l4SameObject; a contract of the model's SameScope. No condition beside what each theorem states.
-/
import Derived.Test.YtaccifjkeblhpaaGreatSameParts
import Derived.Test.YtaccifjkeblhpaaGreatSameFuncs
namespace Go.Proofs.YtaccifjkeblhpaaGreat
open Go.ChangeShapes Go.WideShapes Go.ChangeAt Go.RowKit

set_option maxRecDepth 100000 in
set_option maxHeartbeats 16000000 in
theorem sSameType (t u : TypeD) (a3 b3 : Option Addr) (c3 d3 : Nat) (w : World) (hl : t.fFields.length ≤ 1048576) (hr : Rows fieldS Any w a3 t.fFields) (hr' : Rows fieldS Any w b3 u.fFields) :
    Calls Tryz.prog 128 #[.agg #[.int .i64 t.fKind, .int .i64 t.fLong, .int .i64 t.fBase, .slice a3 t.fFields.length c3, .string t.fOwner, .string t.fName], .agg #[.int .i64 u.fKind, .int .i64 u.fLong, .int .i64 u.fBase, .slice b3 u.fFields.length d3, .string u.fOwner, .string u.fName]] w fun e w' => e = .returned (.bool (eqB t u)) ∧ Below w.heap.size w w' := by
  have HB := Lib.hid (((Below.refl w.heap.size w).alloc (Nat.le_refl _) (.cells #[.int .i64 t.fKind, .int .i64 t.fLong, .int .i64 t.fBase, .slice a3 t.fFields.length c3, .string t.fOwner, .string t.fName] 72)).alloc (by simp) (.cells #[.int .i64 u.fKind, .int .i64 u.fLong, .int .i64 u.fBase, .slice b3 u.fFields.length d3, .string u.fOwner, .string u.fName] 72))
  have Hr := Lib.hid (hr.below HB.out)
  have Hr' := Lib.hid (hr'.below HB.out)
  have HX := Lib.hid ((Box.new w 72 #[.int .i64 t.fKind, .int .i64 t.fLong, .int .i64 t.fBase, .slice a3 t.fFields.length c3, .string t.fOwner, .string t.fName]).alloc (.cells #[.int .i64 u.fKind, .int .i64 u.fLong, .int .i64 u.fBase, .slice b3 u.fFields.length d3, .string u.fOwner, .string u.fName] 72))
  have HY := Lib.hid (Box.new' (w.alloc (.cells #[.int .i64 t.fKind, .int .i64 t.fLong, .int .i64 t.fBase, .slice a3 t.fFields.length c3, .string t.fOwner, .string t.fName] 72)) 72 #[.int .i64 u.fKind, .int .i64 u.fLong, .int .i64 u.fBase, .slice b3 u.fFields.length d3, .string u.fOwner, .string u.fName] (g := w.heap.size + 1) (by simp))
  clear hr hr'
  obtain ⟨t0, t1, t2, t3, t4, t5⟩ := t
  obtain ⟨y0, y1, y2, y3, y4, y5⟩ := u
  simp only at *
  by_cases p0 : t0 = y0
  case neg =>
    have Hv := Lib.hid (eqB_false (t := (⟨t0, t1, t2, t3, t4, t5⟩ : TypeD)) (u := ⟨y0, y1, y2, y3, y4, y5⟩) (fun e => p0 (by cases e; rfl)))
    have g0 : (t0 == y0) = false := beq_eq_false_iff_ne.2 p0
    go_enter Tryz.func128, Tryz.ntmps128
    go_wp2_with fail
    go_ret
    exact ⟨by rw [Hv.out]; rfl, HB.out⟩
  subst p0
  by_cases p1 : t1 = y1
  case neg =>
    have Hv := Lib.hid (eqB_false (t := (⟨t0, t1, t2, t3, t4, t5⟩ : TypeD)) (u := ⟨t0, y1, y2, y3, y4, y5⟩) (fun e => p1 (by cases e; rfl)))
    have g1 : (t1 == y1) = false := beq_eq_false_iff_ne.2 p1
    go_enter Tryz.func128, Tryz.ntmps128
    go_wp2_with fail
    go_ret
    exact ⟨by rw [Hv.out]; rfl, HB.out⟩
  subst p1
  by_cases p2 : t2 = y2
  case neg =>
    have Hv := Lib.hid (eqB_false (t := (⟨t0, t1, t2, t3, t4, t5⟩ : TypeD)) (u := ⟨t0, t1, y2, y3, y4, y5⟩) (fun e => p2 (by cases e; rfl)))
    have g2 : (t2 == y2) = false := beq_eq_false_iff_ne.2 p2
    go_enter Tryz.func128, Tryz.ntmps128
    go_wp2_with fail
    go_ret
    exact ⟨by rw [Hv.out]; rfl, HB.out⟩
  subst p2
  by_cases p3 : t4 = y4
  case neg =>
    have Hv := Lib.hid (eqB_false (t := (⟨t0, t1, t2, t3, t4, t5⟩ : TypeD)) (u := ⟨t0, t1, t2, y3, y4, y5⟩) (fun e => p3 (by cases e; rfl)))
    have g3 := bytes_same t4 y4 false (by simp [p3])
    clear p3
    go_enter Tryz.func128, Tryz.ntmps128
    go_wp2_with fail
    go_ret
    exact ⟨by rw [Hv.out]; rfl, HB.out⟩
  subst p3
  by_cases p4 : t5 = y5
  case neg =>
    have Hv := Lib.hid (eqB_false (t := (⟨t0, t1, t2, t3, t4, t5⟩ : TypeD)) (u := ⟨t0, t1, t2, y3, t4, y5⟩) (fun e => p4 (by cases e; rfl)))
    have g4 := bytes_same t5 y5 false (by simp [p4])
    clear p4
    go_enter Tryz.func128, Tryz.ntmps128
    go_wp2_with fail
    go_ret
    exact ⟨by rw [Hv.out]; rfl, HB.out⟩
  subst p4
  by_cases p5 : t3.length = y3.length
  case neg =>
    have Hv := Lib.hid (eqB_false (t := (⟨t0, t1, t2, t3, t4, t5⟩ : TypeD)) (u := ⟨t0, t1, t2, y3, t4, t5⟩) (fun e => p5 (by cases e; rfl)))
    have g5 : ¬ (t3.length : Int) = (y3.length : Int) := by omega
    go_enter Tryz.func128, Tryz.ntmps128
    go_wp2_with fail
    go_ret
    exact ⟨by rw [Hv.out]; rfl, HB.out⟩
  have PL := Lib.hid p5
  rw [← p5] at HB Hr Hr' HX HY ⊢
  have Hall := Lib.hid (show t3 = y3 → eqB (⟨t0, t1, t2, t3, t4, t5⟩ : TypeD) ⟨t0, t1, t2, y3, t4, t5⟩ = true from fun h => eqB_true (by subst h; rfl))
  clear p5
  go_enter Tryz.func128, Tryz.ntmps128
  go_wp2_with fail
  go_loopw [51] (fun i wr => ∃ k : Nat, i = .int .i64 k ∧ k ≤ t3.length ∧ agreeTo t3 y3 k ∧ Below ((w.alloc (.cells #[.int .i64 t0, .int .i64 t1, .int .i64 t2, .slice a3 t3.length c3, .string t4, .string t5] 72)).alloc (.cells #[.int .i64 t0, .int .i64 t1, .int .i64 t2, .slice b3 t3.length d3, .string t4, .string t5] 72)).heap.size ((w.alloc (.cells #[.int .i64 t0, .int .i64 t1, .int .i64 t2, .slice a3 t3.length c3, .string t4, .string t5] 72)).alloc (.cells #[.int .i64 t0, .int .i64 t1, .int .i64 t2, .slice b3 t3.length d3, .string t4, .string t5] 72)) wr) (fun i _ => t3.length - (intOf i).toNat)
  case atStart => exact ⟨0, rfl, by omega, agree_zero, Below.refl _ _⟩
  case round =>
    obtain ⟨k, rfl, hk, hto, hbel⟩ := hrel
    have Hto := Lib.hid hto
    clear hto
    have hwz : ((w.alloc (.cells #[.int .i64 t0, .int .i64 t1, .int .i64 t2, .slice a3 t3.length c3, .string t4, .string t5] 72)).alloc (.cells #[.int .i64 t0, .int .i64 t1, .int .i64 t2, .slice b3 t3.length d3, .string t4, .string t5] 72)).heap.size ≤ ((w.alloc (.cells #[.int .i64 t0, .int .i64 t1, .int .i64 t2, .slice a3 t3.length c3, .string t4, .string t5] 72)).alloc (.cells #[.int .i64 t0, .int .i64 t1, .int .i64 t2, .slice b3 t3.length d3, .string t4, .string t5] 72)).heap.size := Nat.le_refl _
    by_cases hlt : k < t3.length
    · have hlt' : k < y3.length := by rw [← PL.out]; exact hlt
      have x := (HX.out.below hbel HX.out.lt).cell 3
      have y := (HY.out.below hbel HY.out.lt).cell 3
      simp at x y
      obtain ⟨b, o, cs, hba, _, hb1, hc1, hat⟩ := Hr.out k hlt
      obtain ⟨b', o', cs', hba', _, hb1', hc1', hat'⟩ := Hr'.out k hlt'
      subst hba
      subst hba'
      obtain rfl : cs = [.string t3[k].fName, .int .i64 t3[k].fMark, .int .i64 t3[k].fType] := hat
      obtain rfl : cs' = [.string y3[k].fName, .int .i64 y3[k].fMark, .int .i64 y3[k].fType] := hat'
      have hn : fieldS.n = 3 := rfl
      have e0 := (hbel.cell (p := ⟨b, o + k * 3 + 0, none⟩) (Nat.lt_of_lt_of_le hb1 hwz)).trans (hc1 0 (by decide))
      have q0 := (hbel.cell (p := ⟨b', o' + k * 3 + 0, none⟩) (Nat.lt_of_lt_of_le hb1' hwz)).trans (hc1' 0 (by decide))
      have e1 := (hbel.cell (p := ⟨b, o + k * 3 + 1, none⟩) (Nat.lt_of_lt_of_le hb1 hwz)).trans (hc1 1 (by decide))
      have q1 := (hbel.cell (p := ⟨b', o' + k * 3 + 1, none⟩) (Nat.lt_of_lt_of_le hb1' hwz)).trans (hc1' 1 (by decide))
      have e2 := (hbel.cell (p := ⟨b, o + k * 3 + 2, none⟩) (Nat.lt_of_lt_of_le hb1 hwz)).trans (hc1 2 (by decide))
      have q2 := (hbel.cell (p := ⟨b', o' + k * 3 + 2, none⟩) (Nat.lt_of_lt_of_le hb1' hwz)).trans (hc1' 2 (by decide))
      simp at e0 q0 e1 q1 e2 q2
      clear hc1 hc1'
      have Hbad := Lib.hid (show ¬ t3[k] = y3[k] → eqB (⟨t0, t1, t2, t3, t4, t5⟩ : TypeD) ⟨t0, t1, t2, y3, t4, t5⟩ = false from fun h => eqB_false (fun e => h (by cases e; rfl)))
      have Hnx := Lib.hid (fun h => agree_next hlt hlt' Hto.out h)
      have i1 : (0 : Int) ≤ (k : Int) := by omega
      have i2 : (k : Int) < (t3.length : Int) := by omega
      have Hbel := Lib.hid hbel
      clear hbel hwz
      generalize t3[k] = f at *
      generalize y3[k] = g at *
      clear hlt'
      have heq := eqField f.fName f.fMark f.fType g.fName g.fMark g.fType
      by_cases he : f = g
      · rw [field_bool.2 he] at heq
        have Hn := Lib.hid (Hnx.out he)
        clear he
        go_wp2_with fail
        go_quiet (fail)
        go_wp2_with fail
        go_round
        case rel => exact ⟨k + 1, by go_num, by omega, Hn.out, belowN Hbel.out _⟩
        case measure => simp [intOf]; omega
      · rw [Bool.eq_false_iff.2 (fun h => he (field_bool.1 h))] at heq
        have Hv := Lib.hid (Hbad.out he)
        clear he
        go_wp2_with fail
        go_quiet (fail)
        go_wp2_with fail
        go_ret
        exact ⟨by rw [Hv.out]; rfl, HB.out.trans ((belowN Hbel.out _).mono HB.out.size)⟩
    · have Hv := Lib.hid (Hall.out (List.ext_getElem PL.out fun i h1 h2 => Hto.out i h1 h2 (by omega)))
      have Hbel := Lib.hid hbel
      clear hbel
      go_wp2_with fail
      go_ret
      exact ⟨by rw [Hv.out]; rfl, HB.out.trans (Hbel.out.mono HB.out.size)⟩

set_option maxRecDepth 100000 in
set_option maxHeartbeats 16000000 in
theorem sSameObject (t u : ObjectD) (a3 b3 : Option Addr) (c3 d3 : Nat) (w : World) (hl : t.fParams.length ≤ 1048576) (hr : Rows paramS Any w a3 t.fParams) (hr' : Rows paramS Any w b3 u.fParams) :
    Calls Tryz.prog 129 #[.agg #[.string t.fName, .int .i64 t.fKind, .int .i64 t.fMark, .int .i64 t.fType, .int .i64 t.fValue, .slice a3 t.fParams.length c3], .agg #[.string u.fName, .int .i64 u.fKind, .int .i64 u.fMark, .int .i64 u.fType, .int .i64 u.fValue, .slice b3 u.fParams.length d3]] w fun e w' => e = .returned (.bool (eqB t u)) ∧ Below w.heap.size w w' := by
  have HB := Lib.hid (((Below.refl w.heap.size w).alloc (Nat.le_refl _) (.cells #[.string t.fName, .int .i64 t.fKind, .int .i64 t.fMark, .int .i64 t.fType, .int .i64 t.fValue, .slice a3 t.fParams.length c3] 78)).alloc (by simp) (.cells #[.string u.fName, .int .i64 u.fKind, .int .i64 u.fMark, .int .i64 u.fType, .int .i64 u.fValue, .slice b3 u.fParams.length d3] 78))
  have Hr := Lib.hid (hr.below HB.out)
  have Hr' := Lib.hid (hr'.below HB.out)
  have HX := Lib.hid ((Box.new w 78 #[.string t.fName, .int .i64 t.fKind, .int .i64 t.fMark, .int .i64 t.fType, .int .i64 t.fValue, .slice a3 t.fParams.length c3]).alloc (.cells #[.string u.fName, .int .i64 u.fKind, .int .i64 u.fMark, .int .i64 u.fType, .int .i64 u.fValue, .slice b3 u.fParams.length d3] 78))
  have HY := Lib.hid (Box.new' (w.alloc (.cells #[.string t.fName, .int .i64 t.fKind, .int .i64 t.fMark, .int .i64 t.fType, .int .i64 t.fValue, .slice a3 t.fParams.length c3] 78)) 78 #[.string u.fName, .int .i64 u.fKind, .int .i64 u.fMark, .int .i64 u.fType, .int .i64 u.fValue, .slice b3 u.fParams.length d3] (g := w.heap.size + 1) (by simp))
  clear hr hr'
  obtain ⟨t0, t1, t2, t3, t4, t5⟩ := t
  obtain ⟨y0, y1, y2, y3, y4, y5⟩ := u
  simp only at *
  by_cases p0 : t0 = y0
  case neg =>
    have Hv := Lib.hid (eqB_false (t := (⟨t0, t1, t2, t3, t4, t5⟩ : ObjectD)) (u := ⟨y0, y1, y2, y3, y4, y5⟩) (fun e => p0 (by cases e; rfl)))
    have g0 := bytes_same t0 y0 false (by simp [p0])
    clear p0
    go_enter Tryz.func129, Tryz.ntmps129
    go_wp2_with fail
    go_ret
    exact ⟨by rw [Hv.out]; rfl, HB.out⟩
  subst p0
  by_cases p1 : t1 = y1
  case neg =>
    have Hv := Lib.hid (eqB_false (t := (⟨t0, t1, t2, t3, t4, t5⟩ : ObjectD)) (u := ⟨t0, y1, y2, y3, y4, y5⟩) (fun e => p1 (by cases e; rfl)))
    have g1 : (t1 == y1) = false := beq_eq_false_iff_ne.2 p1
    go_enter Tryz.func129, Tryz.ntmps129
    go_wp2_with fail
    go_ret
    exact ⟨by rw [Hv.out]; rfl, HB.out⟩
  subst p1
  by_cases p2 : t2 = y2
  case neg =>
    have Hv := Lib.hid (eqB_false (t := (⟨t0, t1, t2, t3, t4, t5⟩ : ObjectD)) (u := ⟨t0, t1, y2, y3, y4, y5⟩) (fun e => p2 (by cases e; rfl)))
    have g2 : (t2 == y2) = false := beq_eq_false_iff_ne.2 p2
    go_enter Tryz.func129, Tryz.ntmps129
    go_wp2_with fail
    go_ret
    exact ⟨by rw [Hv.out]; rfl, HB.out⟩
  subst p2
  by_cases p3 : t3 = y3
  case neg =>
    have Hv := Lib.hid (eqB_false (t := (⟨t0, t1, t2, t3, t4, t5⟩ : ObjectD)) (u := ⟨t0, t1, t2, y3, y4, y5⟩) (fun e => p3 (by cases e; rfl)))
    have g3 : (t3 == y3) = false := beq_eq_false_iff_ne.2 p3
    go_enter Tryz.func129, Tryz.ntmps129
    go_wp2_with fail
    go_ret
    exact ⟨by rw [Hv.out]; rfl, HB.out⟩
  subst p3
  by_cases p4 : t4 = y4
  case neg =>
    have Hv := Lib.hid (eqB_false (t := (⟨t0, t1, t2, t3, t4, t5⟩ : ObjectD)) (u := ⟨t0, t1, t2, t3, y4, y5⟩) (fun e => p4 (by cases e; rfl)))
    have g4 : (t4 == y4) = false := beq_eq_false_iff_ne.2 p4
    go_enter Tryz.func129, Tryz.ntmps129
    go_wp2_with fail
    go_ret
    exact ⟨by rw [Hv.out]; rfl, HB.out⟩
  subst p4
  by_cases p5 : t5.length = y5.length
  case neg =>
    have Hv := Lib.hid (eqB_false (t := (⟨t0, t1, t2, t3, t4, t5⟩ : ObjectD)) (u := ⟨t0, t1, t2, t3, t4, y5⟩) (fun e => p5 (by cases e; rfl)))
    have g5 : ¬ (t5.length : Int) = (y5.length : Int) := by omega
    go_enter Tryz.func129, Tryz.ntmps129
    go_wp2_with fail
    go_ret
    exact ⟨by rw [Hv.out]; rfl, HB.out⟩
  have PL := Lib.hid p5
  rw [← p5] at HB Hr Hr' HX HY ⊢
  have Hall := Lib.hid (show t5 = y5 → eqB (⟨t0, t1, t2, t3, t4, t5⟩ : ObjectD) ⟨t0, t1, t2, t3, t4, y5⟩ = true from fun h => eqB_true (by subst h; rfl))
  clear p5
  go_enter Tryz.func129, Tryz.ntmps129
  go_wp2_with fail
  go_loopw [51] (fun i wr => ∃ k : Nat, i = .int .i64 k ∧ k ≤ t5.length ∧ agreeTo t5 y5 k ∧ Below ((w.alloc (.cells #[.string t0, .int .i64 t1, .int .i64 t2, .int .i64 t3, .int .i64 t4, .slice a3 t5.length c3] 78)).alloc (.cells #[.string t0, .int .i64 t1, .int .i64 t2, .int .i64 t3, .int .i64 t4, .slice b3 t5.length d3] 78)).heap.size ((w.alloc (.cells #[.string t0, .int .i64 t1, .int .i64 t2, .int .i64 t3, .int .i64 t4, .slice a3 t5.length c3] 78)).alloc (.cells #[.string t0, .int .i64 t1, .int .i64 t2, .int .i64 t3, .int .i64 t4, .slice b3 t5.length d3] 78)) wr) (fun i _ => t5.length - (intOf i).toNat)
  case atStart => exact ⟨0, rfl, by omega, agree_zero, Below.refl _ _⟩
  case round =>
    obtain ⟨k, rfl, hk, hto, hbel⟩ := hrel
    have Hto := Lib.hid hto
    clear hto
    have hwz : ((w.alloc (.cells #[.string t0, .int .i64 t1, .int .i64 t2, .int .i64 t3, .int .i64 t4, .slice a3 t5.length c3] 78)).alloc (.cells #[.string t0, .int .i64 t1, .int .i64 t2, .int .i64 t3, .int .i64 t4, .slice b3 t5.length d3] 78)).heap.size ≤ ((w.alloc (.cells #[.string t0, .int .i64 t1, .int .i64 t2, .int .i64 t3, .int .i64 t4, .slice a3 t5.length c3] 78)).alloc (.cells #[.string t0, .int .i64 t1, .int .i64 t2, .int .i64 t3, .int .i64 t4, .slice b3 t5.length d3] 78)).heap.size := Nat.le_refl _
    by_cases hlt : k < t5.length
    · have hlt' : k < y5.length := by rw [← PL.out]; exact hlt
      have x := (HX.out.below hbel HX.out.lt).cell 5
      have y := (HY.out.below hbel HY.out.lt).cell 5
      simp at x y
      obtain ⟨b, o, cs, hba, _, hb1, hc1, hat⟩ := Hr.out k hlt
      obtain ⟨b', o', cs', hba', _, hb1', hc1', hat'⟩ := Hr'.out k hlt'
      subst hba
      subst hba'
      obtain rfl : cs = [.string t5[k].fName, .bool t5[k].fByVar, .int .i64 t5[k].fType] := hat
      obtain rfl : cs' = [.string y5[k].fName, .bool y5[k].fByVar, .int .i64 y5[k].fType] := hat'
      have hn : paramS.n = 3 := rfl
      have e0 := (hbel.cell (p := ⟨b, o + k * 3 + 0, none⟩) (Nat.lt_of_lt_of_le hb1 hwz)).trans (hc1 0 (by decide))
      have q0 := (hbel.cell (p := ⟨b', o' + k * 3 + 0, none⟩) (Nat.lt_of_lt_of_le hb1' hwz)).trans (hc1' 0 (by decide))
      have e1 := (hbel.cell (p := ⟨b, o + k * 3 + 1, none⟩) (Nat.lt_of_lt_of_le hb1 hwz)).trans (hc1 1 (by decide))
      have q1 := (hbel.cell (p := ⟨b', o' + k * 3 + 1, none⟩) (Nat.lt_of_lt_of_le hb1' hwz)).trans (hc1' 1 (by decide))
      have e2 := (hbel.cell (p := ⟨b, o + k * 3 + 2, none⟩) (Nat.lt_of_lt_of_le hb1 hwz)).trans (hc1 2 (by decide))
      have q2 := (hbel.cell (p := ⟨b', o' + k * 3 + 2, none⟩) (Nat.lt_of_lt_of_le hb1' hwz)).trans (hc1' 2 (by decide))
      simp at e0 q0 e1 q1 e2 q2
      clear hc1 hc1'
      have Hbad := Lib.hid (show ¬ t5[k] = y5[k] → eqB (⟨t0, t1, t2, t3, t4, t5⟩ : ObjectD) ⟨t0, t1, t2, t3, t4, y5⟩ = false from fun h => eqB_false (fun e => h (by cases e; rfl)))
      have Hnx := Lib.hid (fun h => agree_next hlt hlt' Hto.out h)
      have i1 : (0 : Int) ≤ (k : Int) := by omega
      have i2 : (k : Int) < (t5.length : Int) := by omega
      have Hbel := Lib.hid hbel
      clear hbel hwz
      generalize t5[k] = f at *
      generalize y5[k] = g at *
      clear hlt'
      have heq := eqParam f.fName f.fByVar f.fType g.fName g.fByVar g.fType
      by_cases he : f = g
      · rw [param_bool.2 he] at heq
        have Hn := Lib.hid (Hnx.out he)
        clear he
        go_wp2_with fail
        go_quiet (fail)
        go_wp2_with fail
        go_round
        case rel => exact ⟨k + 1, by go_num, by omega, Hn.out, belowN Hbel.out _⟩
        case measure => simp [intOf]; omega
      · rw [Bool.eq_false_iff.2 (fun h => he (param_bool.1 h))] at heq
        have Hv := Lib.hid (Hbad.out he)
        clear he
        go_wp2_with fail
        go_quiet (fail)
        go_wp2_with fail
        go_ret
        exact ⟨by rw [Hv.out]; rfl, HB.out.trans ((belowN Hbel.out _).mono HB.out.size)⟩
    · have Hv := Lib.hid (Hall.out (List.ext_getElem PL.out fun i h1 h2 => Hto.out i h1 h2 (by omega)))
      have Hbel := Lib.hid hbel
      clear hbel
      go_wp2_with fail
      go_ret
      exact ⟨by rw [Hv.out]; rfl, HB.out.trans (Hbel.out.mono HB.out.size)⟩
end Go.Proofs.YtaccifjkeblhpaaGreat

namespace Go.Proofs.YtaccifjkeblhpaaGreat
open Go.ChangeShapes Go.WideShapes Go.ChangeAt Go.RowKit

set_option maxRecDepth 100000 in
set_option maxHeartbeats 16000000 in
theorem sSameScope (A B : ScopeD) (a1 a2 a3 a4 b1 b2 b3 b4 : Option Addr) (c1 c2 c3 c4 d1 d2 d3 d4 : Nat) (w : World) (K : ScopeK A) (hr : ScopeR Any w a1 a2 a3 a4 A) (hr' : ScopeR Any w b1 b2 b3 b4 B) :
    Calls Tryz.prog 89 #[.agg (scopeC A a1 a2 a3 a4 c1 c2 c3 c4), .agg (scopeC B b1 b2 b3 b4 d1 d2 d3 d4)] w fun e w' => e = .returned (.bool (eqB A B)) ∧ Below w.heap.size w w' := by
  have B0 := Lib.hid (((Below.refl w.heap.size w).alloc (Nat.le_refl _) (.cells (scopeC A a1 a2 a3 a4 c1 c2 c3 c4) 33)).alloc (by simp) (.cells (scopeC B b1 b2 b3 b4 d1 d2 d3 d4) 33))
  have R0 := Lib.hid (hr.below B0.out)
  have S0 := Lib.hid (hr'.below B0.out)
  have X0 := Lib.hid ((Box.new w 33 (scopeC A a1 a2 a3 a4 c1 c2 c3 c4)).alloc (.cells (scopeC B b1 b2 b3 b4 d1 d2 d3 d4) 33))
  have Y0 := Lib.hid (Box.new' (w.alloc (.cells (scopeC A a1 a2 a3 a4 c1 c2 c3 c4) 33)) 33 (scopeC B b1 b2 b3 b4 d1 d2 d3 d4) (g := w.heap.size + 1) (by simp))
  have RW := Lib.hid hr
  have SW := Lib.hid hr'
  have KK := Lib.hid K
  have hli := K.li
  have hlty := K.lt
  have hlo := K.lo
  have hlu := K.lu
  clear hr hr' K
  by_cases p0 : A.fName = B.fName
  case neg =>
    have Hv := Lib.hid (eqB_false (fun (e : A = B) => p0 (by rw [e])))
    have hb := bytes_same A.fName B.fName false (by simp [p0])
    clear p0
    go_enter Tryz.func89, Tryz.ntmps89
    go_wp2_with fail
    go_ret
    exact ⟨by rw [Hv.out]; rfl, B0.out⟩
  have hb := bytes_same A.fName B.fName true (by simp [p0])
  have P0 := Lib.hid p0
  clear p0
  go_enter Tryz.func89, Tryz.ntmps89
  go_wp2_with fail
  clear hb
  refine (sSameNames a1 b1 c1 d1 A.fImports B.fImports _ hli R0.out.imports S0.out.imports).mono ?_
  rintro e w1 ⟨rfl, hb1⟩
  have B1 := Lib.hid (B0.out.trans (hb1.mono B0.out.size))
  have X1 := Lib.hid (X0.out.below hb1 X0.out.lt)
  have Y1 := Lib.hid (Y0.out.below hb1 Y0.out.lt)
  have R1 := Lib.hid (R0.out.below hb1)
  have S1 := Lib.hid (S0.out.below hb1)
  clear hb1
  by_cases p1 : A.fImports = B.fImports
  case neg =>
    have Hv := Lib.hid (eqB_false (fun (e : A = B) => p1 (by rw [e])))
    rw [sameB_false p1]
    clear p1
    go_wp2_with fail
    go_ret
    exact ⟨by rw [Hv.out]; rfl, B1.out⟩
  rw [sameB_true p1]
  have P1 := Lib.hid p1
  clear p1
  obtain ⟨x0, x1, x2, x3, x4⟩ := box5 X1.out
  obtain ⟨y0, y1, y2, y3, y4⟩ := box5 Y1.out
  by_cases p2 : B.fTypes.length = A.fTypes.length
  case neg =>
    have Hv := Lib.hid (eqB_false (fun (e : A = B) => p2 (by rw [e])))
    have g2 : ¬ (A.fTypes.length : Int) = (B.fTypes.length : Int) := by omega
    go_wp2_with fail
    go_ret
    exact ⟨by rw [Hv.out]; rfl, B1.out⟩
  have L2 := Lib.hid p2
  rw [p2] at y2
  clear p2
  by_cases p3 : B.fObjects.length = A.fObjects.length
  case neg =>
    have Hv := Lib.hid (eqB_false (fun (e : A = B) => p3 (by rw [e])))
    have g3 : ¬ (A.fObjects.length : Int) = (B.fObjects.length : Int) := by omega
    go_wp2_with fail
    go_ret
    exact ⟨by rw [Hv.out]; rfl, B1.out⟩
  have L3 := Lib.hid p3
  rw [p3] at y3
  clear p3
  by_cases p4 : B.fUses.length = A.fUses.length
  case neg =>
    have Hv := Lib.hid (eqB_false (fun (e : A = B) => p4 (by rw [e])))
    have g4 : ¬ (A.fUses.length : Int) = (B.fUses.length : Int) := by omega
    go_wp2_with fail
    go_ret
    exact ⟨by rw [Hv.out]; rfl, B1.out⟩
  have L4 := Lib.hid p4
  rw [p4] at y4
  clear p4
  go_wp2_with fail
  clear x0 x1 x2 x3 x4 y0 y1 y2 y3 y4
  go_loopw [51] (fun i wr => ∃ k : Nat, i = .int .i64 k ∧ k ≤ A.fTypes.length ∧ agreeTo A.fTypes B.fTypes k ∧ Box wr w.heap.size 33 (scopeC A a1 a2 a3 a4 c1 c2 c3 c4) ∧ Box wr (w.heap.size + 1) 33 (scopeC B b1 b2 b3 b4 d1 d2 d3 d4) ∧ Below w.heap.size w wr) (fun i _ => A.fTypes.length - (intOf i).toNat)
  case atStart => exact ⟨0, rfl, by omega, agree_zero, X1.out, Y1.out, B1.out⟩
  case round =>
    clear R0 S0 X0 Y0 B0
    obtain ⟨k, rfl, hk, hto, hX, hY, hbel⟩ := hrel
    have Hto := Lib.hid hto
    have HX := Lib.hid hX
    have HY := Lib.hid hY
    clear hto hX hY
    by_cases hlt : k < A.fTypes.length
    · have hlt' : k < B.fTypes.length := by rw [L2.out]; exact hlt
      have x := HX.out.cell 2
      have y := HY.out.cell 2
      simp at x y
      rw [L2.out] at y
      have i1 : (0 : Int) ≤ (k : Int) := by omega
      have i2 : (k : Int) < (A.fTypes.length : Int) := by omega
      obtain ⟨b, o, cse, hbae, _, hbe, hce, hate⟩ := RW.out.types k hlt
      obtain ⟨pa, pc, rfl, hfe, _⟩ := hate
      subst hbae
      have e0 := (hbel.cell (p := ⟨b, o + k * 6 + 0, none⟩) hbe).trans (hce 0 (by decide))
      have e1 := (hbel.cell (p := ⟨b, o + k * 6 + 1, none⟩) hbe).trans (hce 1 (by decide))
      have e2 := (hbel.cell (p := ⟨b, o + k * 6 + 2, none⟩) hbe).trans (hce 2 (by decide))
      have e3 := (hbel.cell (p := ⟨b, o + k * 6 + 3, none⟩) hbe).trans (hce 3 (by decide))
      have e4 := (hbel.cell (p := ⟨b, o + k * 6 + 4, none⟩) hbe).trans (hce 4 (by decide))
      have e5 := (hbel.cell (p := ⟨b, o + k * 6 + 5, none⟩) hbe).trans (hce 5 (by decide))
      obtain ⟨b', o', csq, hbaq, _, hbq, hcq, hatq⟩ := SW.out.types k hlt'
      obtain ⟨qa, qc, rfl, hfq, _⟩ := hatq
      subst hbaq
      have q0 := (hbel.cell (p := ⟨b', o' + k * 6 + 0, none⟩) hbq).trans (hcq 0 (by decide))
      have q1 := (hbel.cell (p := ⟨b', o' + k * 6 + 1, none⟩) hbq).trans (hcq 1 (by decide))
      have q2 := (hbel.cell (p := ⟨b', o' + k * 6 + 2, none⟩) hbq).trans (hcq 2 (by decide))
      have q3 := (hbel.cell (p := ⟨b', o' + k * 6 + 3, none⟩) hbq).trans (hcq 3 (by decide))
      have q4 := (hbel.cell (p := ⟨b', o' + k * 6 + 4, none⟩) hbq).trans (hcq 4 (by decide))
      have q5 := (hbel.cell (p := ⟨b', o' + k * 6 + 5, none⟩) hbq).trans (hcq 5 (by decide))
      have hn : typeS.n = 6 := rfl
      simp only [Nat.add_zero, List.getElem?_cons_zero, List.getElem?_cons_succ] at e0 q0 e1 q1 e2 q2 e3 q3 e4 q4 e5 q5
      have hft := (KK.out.mt _ (List.getElem_mem hlt)).2.2.1
      have Hbad := Lib.hid (show ¬ A.fTypes[k] = B.fTypes[k] → eqB A B = false from fun h => eqB_false (fun e => h (by subst e; rfl)))
      have Hnx := Lib.hid (fun h => agree_next hlt hlt' Hto.out h)
      have HR := Lib.hid (hfe.below (belowN hbel 1))
      have HR' := Lib.hid (hfq.below (belowN hbel 1))
      have HB := Lib.hid (belowN hbel 1)
      have hsz := hbel.size
      have lx := HX.out.lt
      have ly := HY.out.lt
      clear hbel hce hcq hfe hfq
      generalize A.fTypes[k] = t at *
      generalize B.fTypes[k] = u at *
      clear hlt'
      obtain ⟨v, hv⟩ : ∃ v, eqB t u = v := ⟨_, rfl⟩
      have Hv := Lib.hid hv
      clear hv
      go_wp2_with fail
      go_region_held3 (fun w' => w'.cell? ⟨w.heap.size, 2, none⟩ = some (.slice (some ⟨b, o, none⟩) A.fTypes.length c2) ∧ w'.cell? ⟨(w.heap.size + 1), 2, none⟩ = some (.slice (some ⟨b', o', none⟩) A.fTypes.length d2) ∧ w'.cell? ⟨b, o + k * 6, none⟩ = some (.int .i64 t.fKind) ∧ w'.cell? ⟨b, o + k * 6 + 1, none⟩ = some (.int .i64 t.fLong) ∧ w'.cell? ⟨b, o + k * 6 + 2, none⟩ = some (.int .i64 t.fBase) ∧ w'.cell? ⟨b, o + k * 6 + 3, none⟩ = some (.slice pa t.fFields.length pc) ∧ w'.cell? ⟨b, o + k * 6 + 4, none⟩ = some (.string t.fOwner) ∧ w'.cell? ⟨b, o + k * 6 + 5, none⟩ = some (.string t.fName) ∧ w'.cell? ⟨b', o' + k * 6, none⟩ = some (.int .i64 u.fKind) ∧ w'.cell? ⟨b', o' + k * 6 + 1, none⟩ = some (.int .i64 u.fLong) ∧ w'.cell? ⟨b', o' + k * 6 + 2, none⟩ = some (.int .i64 u.fBase) ∧ w'.cell? ⟨b', o' + k * 6 + 3, none⟩ = some (.slice qa u.fFields.length qc) ∧ w'.cell? ⟨b', o' + k * 6 + 4, none⟩ = some (.string u.fOwner) ∧ w'.cell? ⟨b', o' + k * 6 + 5, none⟩ = some (.string u.fName))
        (first
          | exact ⟨x, y, e0, e1, e2, e3, e4, e5, q0, q1, q2, q3, q4, q5⟩
          | go_keep
          | (go_split_ands
             refine ⟨?_, ?_, ?_, ?_, ?_, ?_, ?_, ?_, ?_, ?_, ?_, ?_, ?_, ?_⟩ <;> (rw [hbh.cell (by first | (simp at *; omega) | (simp at *; done) | omega)]; assumption)))
        (first
          | (go_at_call 128; refine (sSameType t u pa qa pc qc _ hft HR.out HR'.out).mono ?_; rw [Hv.out]; rintro e wh ⟨rfl, hbh⟩; have hsz := hbh.size))
      clear x y e0 e1 e2 e3 e4 e5 q0 q1 q2 q3 q4 q5
      have BH := Lib.hid (HB.out.trans (hbh.mono HB.out.size))
      have XH := Lib.hid (HX.out.drew.below hbh (by simpa using lx))
      have YH := Lib.hid (HY.out.drew.below hbh (by simpa using ly))
      clear hbh
      cases v with
      | true =>
        have Hn := Lib.hid (Hnx.out (eqB_of Hv.out))
        go_wp2_with fail
        go_round
        case rel => exact ⟨k + 1, by go_num, by omega, Hn.out, XH.out, YH.out, BH.out⟩
        case measure => simp [intOf]; omega
      | false =>
        have Hw := Lib.hid (Hbad.out (eqB_no Hv.out))
        go_wp2_with fail
        go_ret
        exact ⟨by rw [Hw.out]; rfl, BH.out⟩
    · have A2 := Lib.hid (List.ext_getElem (l₁ := A.fTypes) (l₂ := B.fTypes) L2.out.symm fun i h1 h2 => Hto.out i h1 h2 (by omega))
      have Hbel := Lib.hid hbel
      have x := HX.out.cell 3
      have y := HY.out.cell 3
      simp at x y
      clear hbel Hto
      go_wp2_with fail
      clear x y
      go_loopw [70] (fun i wr => ∃ k : Nat, i = .int .i64 k ∧ k ≤ A.fObjects.length ∧ agreeTo A.fObjects B.fObjects k ∧ Box wr w.heap.size 33 (scopeC A a1 a2 a3 a4 c1 c2 c3 c4) ∧ Box wr (w.heap.size + 1) 33 (scopeC B b1 b2 b3 b4 d1 d2 d3 d4) ∧ Below w.heap.size w wr) (fun i _ => A.fObjects.length - (intOf i).toNat)
      case atStart => exact ⟨0, rfl, by omega, agree_zero, HX.out, HY.out, Hbel.out⟩
      case round =>
        clear hlt hk
        obtain ⟨k, rfl, hk, hto, hX, hY, hbel⟩ := hrel
        have Hto := Lib.hid hto
        have HX := Lib.hid hX
        have HY := Lib.hid hY
        clear hto hX hY
        by_cases hlt : k < A.fObjects.length
        · have hlt' : k < B.fObjects.length := by rw [L3.out]; exact hlt
          have x := HX.out.cell 3
          have y := HY.out.cell 3
          simp at x y
          rw [L3.out] at y
          have i1 : (0 : Int) ≤ (k : Int) := by omega
          have i2 : (k : Int) < (A.fObjects.length : Int) := by omega
          obtain ⟨b, o, cse, hbae, _, hbe, hce, hate⟩ := RW.out.objects k hlt
          obtain ⟨pa, pc, rfl, hfe, _⟩ := hate
          subst hbae
          have e0 := (hbel.cell (p := ⟨b, o + k * 6 + 0, none⟩) hbe).trans (hce 0 (by decide))
          have e1 := (hbel.cell (p := ⟨b, o + k * 6 + 1, none⟩) hbe).trans (hce 1 (by decide))
          have e2 := (hbel.cell (p := ⟨b, o + k * 6 + 2, none⟩) hbe).trans (hce 2 (by decide))
          have e3 := (hbel.cell (p := ⟨b, o + k * 6 + 3, none⟩) hbe).trans (hce 3 (by decide))
          have e4 := (hbel.cell (p := ⟨b, o + k * 6 + 4, none⟩) hbe).trans (hce 4 (by decide))
          have e5 := (hbel.cell (p := ⟨b, o + k * 6 + 5, none⟩) hbe).trans (hce 5 (by decide))
          obtain ⟨b', o', csq, hbaq, _, hbq, hcq, hatq⟩ := SW.out.objects k hlt'
          obtain ⟨qa, qc, rfl, hfq, _⟩ := hatq
          subst hbaq
          have q0 := (hbel.cell (p := ⟨b', o' + k * 6 + 0, none⟩) hbq).trans (hcq 0 (by decide))
          have q1 := (hbel.cell (p := ⟨b', o' + k * 6 + 1, none⟩) hbq).trans (hcq 1 (by decide))
          have q2 := (hbel.cell (p := ⟨b', o' + k * 6 + 2, none⟩) hbq).trans (hcq 2 (by decide))
          have q3 := (hbel.cell (p := ⟨b', o' + k * 6 + 3, none⟩) hbq).trans (hcq 3 (by decide))
          have q4 := (hbel.cell (p := ⟨b', o' + k * 6 + 4, none⟩) hbq).trans (hcq 4 (by decide))
          have q5 := (hbel.cell (p := ⟨b', o' + k * 6 + 5, none⟩) hbq).trans (hcq 5 (by decide))
          have hn : objectS.n = 6 := rfl
          simp only [Nat.add_zero, List.getElem?_cons_zero, List.getElem?_cons_succ] at e0 q0 e1 q1 e2 q2 e3 q3 e4 q4 e5 q5
          have hft := (KK.out.mo _ (List.getElem_mem hlt)).2.1
          have Hbad := Lib.hid (show ¬ A.fObjects[k] = B.fObjects[k] → eqB A B = false from fun h => eqB_false (fun e => h (by subst e; rfl)))
          have Hnx := Lib.hid (fun h => agree_next hlt hlt' Hto.out h)
          have HR := Lib.hid (hfe.below (belowN hbel 1))
          have HR' := Lib.hid (hfq.below (belowN hbel 1))
          have HB := Lib.hid (belowN hbel 1)
          have hsz := hbel.size
          have lx := HX.out.lt
          have ly := HY.out.lt
          clear hbel hce hcq hfe hfq
          generalize A.fObjects[k] = t at *
          generalize B.fObjects[k] = u at *
          clear hlt'
          obtain ⟨v, hv⟩ : ∃ v, eqB t u = v := ⟨_, rfl⟩
          have Hv := Lib.hid hv
          clear hv
          go_wp2_with fail
          go_region_held3 (fun w' => w'.cell? ⟨w.heap.size, 3, none⟩ = some (.slice (some ⟨b, o, none⟩) A.fObjects.length c3) ∧ w'.cell? ⟨(w.heap.size + 1), 3, none⟩ = some (.slice (some ⟨b', o', none⟩) A.fObjects.length d3) ∧ w'.cell? ⟨b, o + k * 6, none⟩ = some (.string t.fName) ∧ w'.cell? ⟨b, o + k * 6 + 1, none⟩ = some (.int .i64 t.fKind) ∧ w'.cell? ⟨b, o + k * 6 + 2, none⟩ = some (.int .i64 t.fMark) ∧ w'.cell? ⟨b, o + k * 6 + 3, none⟩ = some (.int .i64 t.fType) ∧ w'.cell? ⟨b, o + k * 6 + 4, none⟩ = some (.int .i64 t.fValue) ∧ w'.cell? ⟨b, o + k * 6 + 5, none⟩ = some (.slice pa t.fParams.length pc) ∧ w'.cell? ⟨b', o' + k * 6, none⟩ = some (.string u.fName) ∧ w'.cell? ⟨b', o' + k * 6 + 1, none⟩ = some (.int .i64 u.fKind) ∧ w'.cell? ⟨b', o' + k * 6 + 2, none⟩ = some (.int .i64 u.fMark) ∧ w'.cell? ⟨b', o' + k * 6 + 3, none⟩ = some (.int .i64 u.fType) ∧ w'.cell? ⟨b', o' + k * 6 + 4, none⟩ = some (.int .i64 u.fValue) ∧ w'.cell? ⟨b', o' + k * 6 + 5, none⟩ = some (.slice qa u.fParams.length qc))
            (first
              | exact ⟨x, y, e0, e1, e2, e3, e4, e5, q0, q1, q2, q3, q4, q5⟩
              | go_keep
              | (go_split_ands
                 refine ⟨?_, ?_, ?_, ?_, ?_, ?_, ?_, ?_, ?_, ?_, ?_, ?_, ?_, ?_⟩ <;> (rw [hbh.cell (by first | (simp at *; omega) | (simp at *; done) | omega)]; assumption)))
            (first
              | (go_at_call 129; refine (sSameObject t u pa qa pc qc _ hft HR.out HR'.out).mono ?_; rw [Hv.out]; rintro e wh ⟨rfl, hbh⟩; have hsz := hbh.size))
          clear x y e0 e1 e2 e3 e4 e5 q0 q1 q2 q3 q4 q5
          have BH := Lib.hid (HB.out.trans (hbh.mono HB.out.size))
          have XH := Lib.hid (HX.out.drew.below hbh (by simpa using lx))
          have YH := Lib.hid (HY.out.drew.below hbh (by simpa using ly))
          clear hbh
          cases v with
          | true =>
            have Hn := Lib.hid (Hnx.out (eqB_of Hv.out))
            go_wp2_with fail
            go_round
            case rel => exact ⟨k + 1, by go_num, by omega, Hn.out, XH.out, YH.out, BH.out⟩
            case measure => simp [intOf]; omega
          | false =>
            have Hw := Lib.hid (Hbad.out (eqB_no Hv.out))
            go_wp2_with fail
            go_ret
            exact ⟨by rw [Hw.out]; rfl, BH.out⟩
        · have A3 := Lib.hid (List.ext_getElem (l₁ := A.fObjects) (l₂ := B.fObjects) L3.out.symm fun i h1 h2 => Hto.out i h1 h2 (by omega))
          have Hbel := Lib.hid hbel
          have x := HX.out.cell 4
          have y := HY.out.cell 4
          simp at x y
          clear hbel Hto
          go_wp2_with fail
          clear x y
          go_loopw [89] (fun i wr => ∃ k : Nat, i = .int .i64 k ∧ k ≤ A.fUses.length ∧ agreeTo A.fUses B.fUses k ∧ Box wr w.heap.size 33 (scopeC A a1 a2 a3 a4 c1 c2 c3 c4) ∧ Box wr (w.heap.size + 1) 33 (scopeC B b1 b2 b3 b4 d1 d2 d3 d4) ∧ Below w.heap.size w wr) (fun i _ => A.fUses.length - (intOf i).toNat)
          case atStart => exact ⟨0, rfl, by omega, agree_zero, HX.out, HY.out, Hbel.out⟩
          case round =>
            clear hlt hk
            obtain ⟨k, rfl, hk, hto, hX, hY, hbel⟩ := hrel
            have Hto := Lib.hid hto
            have HX := Lib.hid hX
            have HY := Lib.hid hY
            clear hto hX hY
            by_cases hlt : k < A.fUses.length
            · have hlt' : k < B.fUses.length := by rw [L4.out]; exact hlt
              have x := HX.out.cell 4
              have y := HY.out.cell 4
              simp at x y
              rw [L4.out] at y
              have i1 : (0 : Int) ≤ (k : Int) := by omega
              have i2 : (k : Int) < (A.fUses.length : Int) := by omega
              obtain ⟨b, o, hba, _, e0, e1⟩ := use_at RW.out.uses hlt hbel
              obtain ⟨b', o', hba', _, q0, q1⟩ := use_at SW.out.uses hlt' hbel
              subst hba
              subst hba'
              have Hbad := Lib.hid (show ¬ A.fUses[k] = B.fUses[k] → eqB A B = false from fun h => eqB_false (fun e => h (by subst e; rfl)))
              have Hnx := Lib.hid (fun h => agree_next hlt hlt' Hto.out h)
              have Hbel := Lib.hid hbel
              clear hbel
              generalize A.fUses[k] = t at *
              generalize B.fUses[k] = u at *
              clear hlt'
              have heq := eqUse t.fMod t.fName u.fMod u.fName
              by_cases he : t = u
              · rw [use_bool.2 he] at heq
                have Hn := Lib.hid (Hnx.out he)
                clear he
                go_wp2_with fail
                go_quiet (fail)
                go_wp2_with fail
                go_round
                case rel => exact ⟨k + 1, by go_num, by omega, Hn.out, HX.out.drewN _, HY.out.drewN _, belowN Hbel.out _⟩
                case measure => simp [intOf]; omega
              · rw [Bool.eq_false_iff.2 (fun h => he (use_bool.1 h))] at heq
                have Hv := Lib.hid (Hbad.out he)
                clear he
                go_wp2_with fail
                go_quiet (fail)
                go_wp2_with fail
                go_ret
                exact ⟨by rw [Hv.out]; rfl, belowN Hbel.out _⟩
            · have Hv := Lib.hid (eqB_true (scope_eq P0.out P1.out A2.out A3.out (List.ext_getElem L4.out.symm fun i h1 h2 => Hto.out i h1 h2 (by omega))))
              have Hbel := Lib.hid hbel
              clear hbel
              go_wp2_with fail
              go_ret
              exact ⟨by rw [Hv.out]; rfl, Hbel.out⟩
end Go.Proofs.YtaccifjkeblhpaaGreat
