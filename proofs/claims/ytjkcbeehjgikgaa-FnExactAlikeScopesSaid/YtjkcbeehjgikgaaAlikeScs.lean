
/-
  What is proved: contracts of both AlikeScopes. No condition beside what each theorem states.
-/
import Derived.Test.YtjkcbeehjgikgaaAlikeObjs
import Derived.Deep.RegionHeld3
namespace Go.Proofs.Ytjkcbeehjgikgaa
open Go.ChangeShapes Go.WideShapes Go.ChangeAt Go.RowKit Go.Maps Go.WideMaps

/-- Objects that are alike up to place k. -/
def asTo (A B : ScopeD) (k : Nat) : Prop := ∀ i (h : i < A.fObjects.length) (h' : i < B.fObjects.length), i < k → alikeO A.fTypes B.fTypes A.fObjects[i] B.fObjects[i]
theorem asTo_zero {A B : ScopeD} : asTo A B 0 := fun _ _ _ h => absurd h (by omega)
theorem asTo_next {A B : ScopeD} {k : Nat} (hk : k < A.fObjects.length) (hk' : k < B.fObjects.length) (h : asTo A B k) (h1 : alikeO A.fTypes B.fTypes A.fObjects[k] B.fObjects[k]) : asTo A B (k + 1) := fun i hi hi' hik => by
  by_cases e : i = k
  · subst e; exact h1
  · exact h i hi hi' (by omega)
def asV (A B : ScopeD) : Prop := A.fName = B.fName ∧ A.fImports = B.fImports ∧ A.fObjects.length = B.fObjects.length ∧ asTo A B A.fObjects.length
/-- What AlikeScopes tells. -/
def IsAS (A B : ScopeD) (v ok : Bool) : Prop := (¬ (scopeP A ∧ scopeP B) ∧ v = false ∧ ok = false) ∨ ((scopeP A ∧ scopeP B) ∧ ok = true ∧ (v = true ↔ asV A B))
theorem IsAS.eq {A B : ScopeD} {v ok v' ok' : Bool} (h : IsAS A B v ok) (h' : IsAS A B v' ok') : v = v' ∧ ok = ok' := by
  rcases h with ⟨h, rfl, rfl⟩ | ⟨h, rfl, hv⟩ <;> rcases h' with ⟨h', rfl, rfl⟩ | ⟨h', rfl, hv'⟩
  · exact ⟨rfl, rfl⟩
  · exact absurd h' h
  · exact absurd h h'
  · exact ⟨by rw [Bool.eq_iff_iff]; exact hv.trans hv'.symm, rfl⟩
theorem IsAS.no {A B : ScopeD} (h : scopeP A ∧ scopeP B) (hn : ¬ asV A B) : IsAS A B false true := .inr ⟨h, rfl, ⟨fun g => (by cases g), fun g => absurd g hn⟩⟩
theorem IsAS.yes {A B : ScopeD} (h : scopeP A ∧ scopeP B) (hn : asV A B) : IsAS A B true true := .inr ⟨h, rfl, ⟨fun _ => hn, fun _ => rfl⟩⟩
/-- What is told of a call. -/
def PostAS (A B : ScopeD) (w : World) (e : Ending) (w' : World) : Prop := ∃ v ok : Bool, e = .returned (.tuple #[.bool v, .bool ok]) ∧ IsAS A B v ok ∧ Below w.heap.size w w'
theorem asV_bad {A B : ScopeD} {k : Nat} (hk : k < A.fObjects.length) (hk' : k < B.fObjects.length) (h : ¬ alikeO A.fTypes B.fTypes A.fObjects[k] B.fObjects[k]) : ¬ asV A B := fun g => h (g.2.2.2 k hk hk' hk)

set_option maxRecDepth 100000 in
set_option maxHeartbeats 16000000 in
theorem sAlikeScopes (A B : ScopeD) (a1 a2 a3 a4 b1 b2 b3 b4 : Option Addr) (c1 c2 c3 c4 d1 d2 d3 d4 : Nat) (w : World) (hmA : ScopeM w a1 a2 a3 a4 c1 c2 c3 c4 A) (hmB : ScopeM w b1 b2 b3 b4 d1 d2 d3 d4 B) :
    Calls Try.prog 48 #[.agg (scopeC A a1 a2 a3 a4 c1 c2 c3 c4), .agg (scopeC B b1 b2 b3 b4 d1 d2 d3 d4)] w (PostAS A B w) := by
  have MA := Lib.hid hmA
  have MB := Lib.hid hmB
  have HB := Lib.hid (((Below.refl w.heap.size w).alloc (Nat.le_refl _) (.cells (scopeC A a1 a2 a3 a4 c1 c2 c3 c4) 66)).alloc (by simp) (.cells (scopeC B b1 b2 b3 b4 d1 d2 d3 d4) 66))
  have HX := Lib.hid ((Box.new w 66 (scopeC A a1 a2 a3 a4 c1 c2 c3 c4)).alloc (.cells (scopeC B b1 b2 b3 b4 d1 d2 d3 d4) 66))
  have HY := Lib.hid (Box.new' (w.alloc (.cells (scopeC A a1 a2 a3 a4 c1 c2 c3 c4) 66)) 66 (scopeC B b1 b2 b3 b4 d1 d2 d3 d4) (g := w.heap.size + 1) (by simp))
  have hliA := hmA.li
  have hloA := hmA.lo
  have hloB := hmB.lo
  clear hmA hmB
  go_enter Try.func48, Try.ntmps48
  go_wp2_with fail
  refine (sl4Good A a1 a2 a3 a4 c1 c2 c3 c4 _ (MA.out.below HB.out)).mono ?_
  rintro e w1 ⟨rfl, hb⟩
  replace HB := Lib.hid (HB.out.trans (hb.mono HB.out.size))
  replace HX := Lib.hid (HX.out.below hb HX.out.lt)
  replace HY := Lib.hid (HY.out.below hb HY.out.lt)
  clear hb
  by_cases r1 : scopeP A
  case neg =>
    have Hv := Lib.hid (show IsAS A B false false from .inl ⟨fun h => r1 h.1, rfl, rfl⟩)
    rw [scopeB_false r1]
    clear r1
    go_wp2_with fail
    go_ret2
    unfold PostAS
    exact ⟨_, _, rfl, Hv.out, HB.out⟩
  rw [scopeB_true r1]
  have R1 := Lib.hid r1
  clear r1
  obtain ⟨y0, y1, y2, y3, y4⟩ := box5 HY.out
  go_wp2_with fail
  clear y0 y1 y2 y3 y4
  refine (sl4Good B b1 b2 b3 b4 d1 d2 d3 d4 _ (MB.out.below HB.out)).mono ?_
  rintro e w2 ⟨rfl, hb⟩
  replace HB := Lib.hid (HB.out.trans (hb.mono HB.out.size))
  replace HX := Lib.hid (HX.out.below hb HX.out.lt)
  replace HY := Lib.hid (HY.out.below hb HY.out.lt)
  clear hb
  by_cases r2 : scopeP B
  case neg =>
    have Hv := Lib.hid (show IsAS A B false false from .inl ⟨fun h => r2 h.2, rfl, rfl⟩)
    rw [scopeB_false r2]
    clear r2
    go_wp2_with fail
    go_ret2
    unfold PostAS
    exact ⟨_, _, rfl, Hv.out, HB.out⟩
  rw [scopeB_true r2]
  have R2 := Lib.hid r2
  clear r2
  have RR := Lib.hid (show scopeP A ∧ scopeP B from ⟨R1.out, R2.out⟩)
  obtain ⟨x0, x1, x2, x3, x4⟩ := box5 HX.out
  obtain ⟨y0, y1, y2, y3, y4⟩ := box5 HY.out
  by_cases p0 : A.fName = B.fName
  case neg =>
    have Hv := Lib.hid (IsAS.no RR.out (fun h => p0 h.1))
    have hb := bytes_same A.fName B.fName false (by simp [p0])
    clear p0
    go_wp2_with fail
    go_ret2
    unfold PostAS
    exact ⟨_, _, rfl, Hv.out, HB.out⟩
  have hb := bytes_same A.fName B.fName true (by simp [p0])
  have P0 := Lib.hid p0
  clear p0
  go_wp2_with fail
  clear hb
  clear x0 x1 x2 x3 x4 y0 y1 y2 y3 y4
  refine (sSameNames a1 b1 c1 d1 A.fImports B.fImports _ hliA (MA.out.r.imports.below HB.out) (MB.out.r.imports.below HB.out)).mono ?_
  rintro e w3 ⟨rfl, hb⟩
  replace HB := Lib.hid (HB.out.trans (hb.mono HB.out.size))
  replace HX := Lib.hid (HX.out.below hb HX.out.lt)
  replace HY := Lib.hid (HY.out.below hb HY.out.lt)
  clear hb
  by_cases p1 : A.fImports = B.fImports
  case neg =>
    have Hv := Lib.hid (IsAS.no RR.out (fun h => p1 h.2.1))
    rw [sameB_false p1]
    clear p1
    go_wp2_with fail
    go_ret2
    unfold PostAS
    exact ⟨_, _, rfl, Hv.out, HB.out⟩
  rw [sameB_true p1]
  have P1 := Lib.hid p1
  clear p1
  obtain ⟨x0, x1, x2, x3, x4⟩ := box5 HX.out
  obtain ⟨y0, y1, y2, y3, y4⟩ := box5 HY.out
  by_cases p2 : A.fObjects.length = B.fObjects.length
  case neg =>
    have Hv := Lib.hid (IsAS.no RR.out (fun h => p2 h.2.2.1))
    have g2 : ¬ (A.fObjects.length : Int) = (B.fObjects.length : Int) := by omega
    go_wp2_with fail
    go_ret2
    unfold PostAS
    exact ⟨_, _, rfl, Hv.out, HB.out⟩
  have g2 : (A.fObjects.length : Int) = (B.fObjects.length : Int) := by omega
  have P2 := Lib.hid p2
  clear p2
  go_wp2_with fail
  clear g2
  clear x0 x1 x2 x3 x4 y0 y1 y2 y3 y4
  go_loopw [41] (fun i wr => ∃ k : Nat, i = .int .i64 k ∧ k ≤ B.fObjects.length ∧ asTo A B k ∧ Box wr w.heap.size 66 (scopeC A a1 a2 a3 a4 c1 c2 c3 c4) ∧ Box wr (w.heap.size + 1) 66 (scopeC B b1 b2 b3 b4 d1 d2 d3 d4) ∧ Below w.heap.size w wr) (fun i _ => B.fObjects.length - (intOf i).toNat)
  case atStart => exact ⟨0, rfl, by omega, asTo_zero, HX.out, HY.out, HB.out⟩
  case round =>
    clear HX HY HB
    obtain ⟨k, rfl, hk, hto, hX, hY, hbel⟩ := hrel
    have Hto := Lib.hid hto
    clear hto
    by_cases hlt : k < A.fObjects.length
    · have hlt' : k < B.fObjects.length := by rw [← P2.out]; exact hlt
      obtain ⟨ob, oo, oa, oc, hba, lb, hro, e0, e1, e2, e3, e4, e5⟩ := object_at MA.out.r.objects hlt hbel
      obtain ⟨qb, qo, qa, qc, hbq, lq, hrq, f0, f1, f2, f3, f4, f5⟩ := object_at MB.out.r.objects hlt' hbel
      have i1 : (0 : Int) ≤ (k : Int) := by omega
      have i2 : (k : Int) < (A.fObjects.length : Int) := by omega
      have i3 : (k : Int) < (B.fObjects.length : Int) := by omega
      have hwz := hbel.size
      have hbA := (Below.refl wr.heap.size wr).alloc (Nat.le_refl _) (.cells (objC A.fObjects[k] oa oc) 125)
      have BA := Lib.hid (belowN (hbel.trans (hbA.mono hbel.size)) 1)
      have XA := Lib.hid (hX.below hbA hX.lt).drew
      have YA := Lib.hid (hY.below hbA hY.lt).drew
      have ZA := Lib.hid (Box.new wr 125 (objC A.fObjects[k] oa oc)).drew
      have hf := fun j => (hbA.cell (p := ⟨qb, qo + k * 6 + j, none⟩) (Nat.lt_of_lt_of_le lq hwz))
      have f0' : (wr.alloc (.cells (objC A.fObjects[k] oa oc) 125)).drew.cell? ⟨qb, qo + k * 6, none⟩ = some (.string B.fObjects[k].fName) := (hf 0).trans f0
      have f1' : (wr.alloc (.cells (objC A.fObjects[k] oa oc) 125)).drew.cell? ⟨qb, qo + k * 6 + 1, none⟩ = some (.int .i64 B.fObjects[k].fKind) := (hf 1).trans f1
      have f2' : (wr.alloc (.cells (objC A.fObjects[k] oa oc) 125)).drew.cell? ⟨qb, qo + k * 6 + 2, none⟩ = some (.int .i64 B.fObjects[k].fMark) := (hf 2).trans f2
      have f3' : (wr.alloc (.cells (objC A.fObjects[k] oa oc) 125)).drew.cell? ⟨qb, qo + k * 6 + 3, none⟩ = some (.int .i64 B.fObjects[k].fType) := (hf 3).trans f3
      have f4' : (wr.alloc (.cells (objC A.fObjects[k] oa oc) 125)).drew.cell? ⟨qb, qo + k * 6 + 4, none⟩ = some (.int .i64 B.fObjects[k].fValue) := (hf 4).trans f4
      have f5' : (wr.alloc (.cells (objC A.fObjects[k] oa oc) 125)).drew.cell? ⟨qb, qo + k * 6 + 5, none⟩ = some (.slice qa B.fObjects[k].fParams.length qc) := (hf 5).trans f5
      have Ra := Lib.hid (MA.out.r.types.below BA.out)
      have Rb := Lib.hid (MB.out.r.types.below BA.out)
      have Ro := Lib.hid (hro.below BA.out)
      have Rq := Lib.hid (hrq.below BA.out)
      have Hto1 := Lib.hid (R1.out.objs hlt)
      have Htp := Lib.hid (R2.out.objs hlt')
      have hol := (MA.out.mo _ (List.getElem_mem hlt)).2.1
      have Hbad := Lib.hid (fun h => IsAS.no RR.out (asV_bad (A := A) (B := B) hlt hlt' h))
      have Hnx := Lib.hid (fun h => asTo_next hlt hlt' Hto.out h)
      have nA := R1.out.2.2.1.1
      have nB := R2.out.2.2.1.1
      have NA := Lib.hid nA
      have NB := Lib.hid nB
      have lx := hX.lt
      have ly := hY.lt
      have hsa : (wr.alloc (.cells (objC A.fObjects[k] oa oc) 125)).drew.heap.size = wr.heap.size + 1 := by simp
      clear hbA hf f0 f1 f2 f3 f4 f5 hro hrq nA nB hX hY hbel
      subst hba
      subst hbq
      generalize A.fObjects[k] = t at *
      generalize B.fObjects[k] = u at *
      go_wp2_with fail
      go_region_held3 (fun w' => w'.cell? ⟨w.heap.size, 0, none⟩ = some (.string A.fName) ∧ w'.cell? ⟨w.heap.size, 1, none⟩ = some (.slice a1 A.fImports.length c1) ∧ w'.cell? ⟨w.heap.size, 2, none⟩ = some (.slice a2 A.fTypes.length c2) ∧ w'.cell? ⟨w.heap.size, 3, none⟩ = some (.slice (some ⟨ob, oo, none⟩) A.fObjects.length c3) ∧ w'.cell? ⟨w.heap.size, 4, none⟩ = some (.slice a4 A.fUses.length c4) ∧ w'.cell? ⟨(w.heap.size + 1), 0, none⟩ = some (.string B.fName) ∧ w'.cell? ⟨(w.heap.size + 1), 1, none⟩ = some (.slice b1 B.fImports.length d1) ∧ w'.cell? ⟨(w.heap.size + 1), 2, none⟩ = some (.slice b2 B.fTypes.length d2) ∧ w'.cell? ⟨(w.heap.size + 1), 3, none⟩ = some (.slice (some ⟨qb, qo, none⟩) B.fObjects.length d3) ∧ w'.cell? ⟨(w.heap.size + 1), 4, none⟩ = some (.slice b4 B.fUses.length d4) ∧ w'.cell? ⟨wr.heap.size, 0, none⟩ = some (.string t.fName) ∧ w'.cell? ⟨wr.heap.size, 1, none⟩ = some (.int .i64 t.fKind) ∧ w'.cell? ⟨wr.heap.size, 2, none⟩ = some (.int .i64 t.fMark) ∧ w'.cell? ⟨wr.heap.size, 3, none⟩ = some (.int .i64 t.fType) ∧ w'.cell? ⟨wr.heap.size, 4, none⟩ = some (.int .i64 t.fValue) ∧ w'.cell? ⟨wr.heap.size, 5, none⟩ = some (.slice oa t.fParams.length oc) ∧ w'.cell? ⟨qb, qo + k * 6, none⟩ = some (.string u.fName) ∧ w'.cell? ⟨qb, qo + k * 6 + 1, none⟩ = some (.int .i64 u.fKind) ∧ w'.cell? ⟨qb, qo + k * 6 + 2, none⟩ = some (.int .i64 u.fMark) ∧ w'.cell? ⟨qb, qo + k * 6 + 3, none⟩ = some (.int .i64 u.fType) ∧ w'.cell? ⟨qb, qo + k * 6 + 4, none⟩ = some (.int .i64 u.fValue) ∧ w'.cell? ⟨qb, qo + k * 6 + 5, none⟩ = some (.slice qa u.fParams.length qc))
        (first
        | exact ⟨XA.out.cell 0, XA.out.cell 1, XA.out.cell 2, XA.out.cell 3, XA.out.cell 4, YA.out.cell 0, YA.out.cell 1, YA.out.cell 2, YA.out.cell 3, YA.out.cell 4, ZA.out.cell 0, ZA.out.cell 1, ZA.out.cell 2, ZA.out.cell 3, ZA.out.cell 4, ZA.out.cell 5, f0', f1', f2', f3', f4', f5'⟩
        | go_keep
        | (go_split_ands
           refine ⟨?_, ?_, ?_, ?_, ?_, ?_, ?_, ?_, ?_, ?_, ?_, ?_, ?_, ?_, ?_, ?_, ?_, ?_, ?_, ?_, ?_, ?_⟩ <;> (rw [hbt.cell (by first | (simp at *; omega) | (simp at *; done) | omega)]; assumption)))
        (first
          | (go_at_call 113; refine (sl4Alike A B NA.out NB.out a1 a2 _ a4 b1 b2 _ b4 c1 c2 c3 c4 d1 d2 d3 d4 t u oa qa oc qc _ hol Hto1.out Htp.out Ra.out Rb.out Ro.out Rq.out).mono ?_; rintro e wt ⟨rfl, hbt⟩; have hsz := hbt.size))
      have BF := Lib.hid (BA.out.trans (hbt.mono BA.out.size))
      have XF := Lib.hid (XA.out.below hbt XA.out.lt)
      have YF := Lib.hid (YA.out.below hbt YA.out.lt)
      clear hbt
      by_cases q : alikeO A.fTypes B.fTypes t u
      · rw [alikeB_true q]
        have Hn := Lib.hid (Hnx.out q)
        clear q
        go_wp2_with fail
        go_round
        case rel => exact ⟨k + 1, by go_num, by omega, Hn.out, XF.out, YF.out, BF.out⟩
        case measure => simp [intOf]; omega
      · rw [alikeB_false q]
        have Hv := Lib.hid (Hbad.out q)
        clear q
        go_wp2_with fail
        go_ret2
        unfold PostAS
        exact ⟨_, _, rfl, Hv.out, BF.out⟩
    · have Hv := Lib.hid (IsAS.yes RR.out (show asV A B from ⟨P0.out, P1.out, P2.out, fun i h h' _ => Hto.out i h h' (by omega)⟩))
      have Hbel := Lib.hid hbel
      have hnl : ¬ (k : Int) < (B.fObjects.length : Int) := by have := P2.out; omega
      clear hbel
      go_wp2_with fail
      go_ret2
      unfold PostAS
      exact ⟨_, _, rfl, Hv.out, Hbel.out⟩

set_option maxRecDepth 100000 in
set_option maxHeartbeats 16000000 in
theorem iAlikeScopes (A B : ScopeD) (a1 a2 a3 a4 b1 b2 b3 b4 : Option Addr) (c1 c2 c3 c4 d1 d2 d3 d4 : Nat) (w : World) (hmA : ScopeM w a1 a2 a3 a4 c1 c2 c3 c4 A) (hmB : ScopeM w b1 b2 b3 b4 d1 d2 d3 d4 B) :
    Calls Try.prog 49 #[.agg (scopeC A a1 a2 a3 a4 c1 c2 c3 c4), .agg (scopeC B b1 b2 b3 b4 d1 d2 d3 d4)] w (PostAS A B w) := by
  have MA := Lib.hid hmA
  have MB := Lib.hid hmB
  have HB := Lib.hid (((Below.refl w.heap.size w).alloc (Nat.le_refl _) (.cells (scopeC A a1 a2 a3 a4 c1 c2 c3 c4) 66)).alloc (by simp) (.cells (scopeC B b1 b2 b3 b4 d1 d2 d3 d4) 66))
  have HX := Lib.hid ((Box.new w 66 (scopeC A a1 a2 a3 a4 c1 c2 c3 c4)).alloc (.cells (scopeC B b1 b2 b3 b4 d1 d2 d3 d4) 66))
  have HY := Lib.hid (Box.new' (w.alloc (.cells (scopeC A a1 a2 a3 a4 c1 c2 c3 c4) 66)) 66 (scopeC B b1 b2 b3 b4 d1 d2 d3 d4) (g := w.heap.size + 1) (by simp))
  have hliA := hmA.li
  have hloA := hmA.lo
  have hloB := hmB.lo
  clear hmA hmB
  go_enter Try.func49, Try.ntmps49
  go_wp2_with fail
  refine (iGoodScope A a1 a2 a3 a4 c1 c2 c3 c4 _ (MA.out.below HB.out)).mono ?_
  rintro e w1 ⟨rfl, hb⟩
  replace HB := Lib.hid (HB.out.trans (hb.mono HB.out.size))
  replace HX := Lib.hid (HX.out.below hb HX.out.lt)
  replace HY := Lib.hid (HY.out.below hb HY.out.lt)
  clear hb
  by_cases r1 : scopeP A
  case neg =>
    have Hv := Lib.hid (show IsAS A B false false from .inl ⟨fun h => r1 h.1, rfl, rfl⟩)
    rw [scopeB_false r1]
    clear r1
    go_wp2_with fail
    go_ret2
    unfold PostAS
    exact ⟨_, _, rfl, Hv.out, HB.out⟩
  rw [scopeB_true r1]
  have R1 := Lib.hid r1
  clear r1
  obtain ⟨y0, y1, y2, y3, y4⟩ := box5 HY.out
  go_wp2_with fail
  clear y0 y1 y2 y3 y4
  refine (iGoodScope B b1 b2 b3 b4 d1 d2 d3 d4 _ (MB.out.below HB.out)).mono ?_
  rintro e w2 ⟨rfl, hb⟩
  replace HB := Lib.hid (HB.out.trans (hb.mono HB.out.size))
  replace HX := Lib.hid (HX.out.below hb HX.out.lt)
  replace HY := Lib.hid (HY.out.below hb HY.out.lt)
  clear hb
  by_cases r2 : scopeP B
  case neg =>
    have Hv := Lib.hid (show IsAS A B false false from .inl ⟨fun h => r2 h.2, rfl, rfl⟩)
    rw [scopeB_false r2]
    clear r2
    go_wp2_with fail
    go_ret2
    unfold PostAS
    exact ⟨_, _, rfl, Hv.out, HB.out⟩
  rw [scopeB_true r2]
  have R2 := Lib.hid r2
  clear r2
  have RR := Lib.hid (show scopeP A ∧ scopeP B from ⟨R1.out, R2.out⟩)
  obtain ⟨x0, x1, x2, x3, x4⟩ := box5 HX.out
  obtain ⟨y0, y1, y2, y3, y4⟩ := box5 HY.out
  by_cases p0 : A.fName = B.fName
  case neg =>
    have Hv := Lib.hid (IsAS.no RR.out (fun h => p0 h.1))
    have hb := bytes_same A.fName B.fName false (by simp [p0])
    clear p0
    go_wp2_with fail
    go_ret2
    unfold PostAS
    exact ⟨_, _, rfl, Hv.out, HB.out⟩
  have hb := bytes_same A.fName B.fName true (by simp [p0])
  have P0 := Lib.hid p0
  clear p0
  go_wp2_with fail
  clear hb
  clear x0 x1 x2 x3 x4 y0 y1 y2 y3 y4
  refine (iEqualStr a1 b1 c1 d1 A.fImports B.fImports _ hliA (MA.out.r.imports.below HB.out) (MB.out.r.imports.below HB.out)).mono ?_
  rintro e w3 ⟨rfl, hb⟩
  replace HB := Lib.hid (HB.out.trans (hb.mono HB.out.size))
  replace HX := Lib.hid (HX.out.below hb HX.out.lt)
  replace HY := Lib.hid (HY.out.below hb HY.out.lt)
  clear hb
  by_cases p1 : A.fImports = B.fImports
  case neg =>
    have Hv := Lib.hid (IsAS.no RR.out (fun h => p1 h.2.1))
    rw [sameB_false p1]
    clear p1
    go_wp2_with fail
    go_ret2
    unfold PostAS
    exact ⟨_, _, rfl, Hv.out, HB.out⟩
  rw [sameB_true p1]
  have P1 := Lib.hid p1
  clear p1
  obtain ⟨x0, x1, x2, x3, x4⟩ := box5 HX.out
  obtain ⟨y0, y1, y2, y3, y4⟩ := box5 HY.out
  by_cases p2 : A.fObjects.length = B.fObjects.length
  case neg =>
    have Hv := Lib.hid (IsAS.no RR.out (fun h => p2 h.2.2.1))
    have g2 : ¬ (A.fObjects.length : Int) = (B.fObjects.length : Int) := by omega
    go_wp2_with fail
    go_ret2
    unfold PostAS
    exact ⟨_, _, rfl, Hv.out, HB.out⟩
  have g2 : (A.fObjects.length : Int) = (B.fObjects.length : Int) := by omega
  have P2 := Lib.hid p2
  clear p2
  go_wp2_with fail
  clear g2
  clear x0 x1 x2 x3 x4 y0 y1 y2 y3 y4
  refine (iTablesOf A B a1 a2 a3 a4 b1 b2 b3 b4 c1 c2 c3 c4 d1 d2 d3 d4 w3).mono ?_
  rintro e w4 ⟨rfl, hmt, hb⟩
  have s3 := HB.out.size
  replace HB := Lib.hid (HB.out.trans (hb.mono HB.out.size))
  replace HX := Lib.hid (HX.out.below hb HX.out.lt)
  replace HY := Lib.hid (HY.out.below hb HY.out.lt)
  have hm4 := hmt.lt
  have gB : w.heap.size ≤ w3.heap.size + 1 + 1 + 1 := by omega
  have hal := (Below.refl w4.heap.size w4).alloc (Nat.le_refl _) (.cells #[.slice a2 A.fTypes.length c2, .slice b2 B.fTypes.length d2, .map (some (w3.heap.size + 1 + 1 + 1))] 133)
  have HM := Lib.hid (hmt.below hal)
  have HZ := Lib.hid (Box.new w4 133 #[.slice a2 A.fTypes.length c2, .slice b2 B.fTypes.length d2, .map (some (w3.heap.size + 1 + 1 + 1))])
  replace HB := Lib.hid (HB.out.trans (hal.mono HB.out.size))
  replace HX := Lib.hid (HX.out.below hal HX.out.lt)
  replace HY := Lib.hid (HY.out.below hal HY.out.lt)
  clear hb hmt hal
  obtain ⟨gm, hgm⟩ : ∃ gm, w3.heap.size + 1 + 1 + 1 = gm := ⟨_, rfl⟩
  rw [hgm] at HM HZ HB HX HY hm4 gB
  rw [hgm]
  obtain ⟨n6, hn6⟩ : ∃ n6, w4.heap.size = n6 := ⟨_, rfl⟩
  obtain ⟨x0, x1, x2, x3, x4⟩ := box5 HX.out
  have ne0 : w.heap.size ≠ gm := by omega
  have ne1 : w.heap.size + 1 ≠ gm := by omega
  have ne6 : n6 ≠ gm := by omega
  have Hgm := Lib.hid hgm
  clear hgm
  go_wp2_with fail
  clear x0 x1 x2 x3 x4
  rw [hn6] at HZ
  try rw [hn6]
  have Hn6 := Lib.hid hn6
  clear hn6
  go_loopw [45] (fun i wr => ∃ k : Nat, i = .int .i64 k ∧ k ≤ A.fObjects.length ∧ asTo A B k ∧ MapIn A.fTypes B.fTypes wr gm ∧ Box wr n6 133 #[.slice a2 A.fTypes.length c2, .slice b2 B.fTypes.length d2, .map (some (gm))] ∧ Box wr w.heap.size 66 (scopeC A a1 a2 a3 a4 c1 c2 c3 c4) ∧ Box wr (w.heap.size + 1) 66 (scopeC B b1 b2 b3 b4 d1 d2 d3 d4) ∧ Below w.heap.size w wr) (fun i _ => A.fObjects.length - (intOf i).toNat)
  case atStart => exact ⟨0, rfl, by omega, asTo_zero, HM.out, HZ.out, HX.out, HY.out, HB.out⟩
  case round =>
    clear HX HY HB HM HZ
    obtain ⟨k, rfl, hk, hto, hM, hZ, hX, hY, hbel⟩ := hrel
    have Hto := Lib.hid hto
    clear hto
    by_cases hlt : k < A.fObjects.length
    · have hlt' : k < B.fObjects.length := by rw [← P2.out]; exact hlt
      obtain ⟨ob, oo, oa, oc, hba, lb, hro, e0, e1, e2, e3, e4, e5⟩ := object_at MA.out.r.objects hlt hbel
      obtain ⟨qb, qo, qa, qc, hbq, lq, hrq, f0, f1, f2, f3, f4, f5⟩ := object_at MB.out.r.objects hlt' hbel
      have i1 : (0 : Int) ≤ (k : Int) := by omega
      have i2 : (k : Int) < (A.fObjects.length : Int) := by omega
      have i3 : (k : Int) < (B.fObjects.length : Int) := by omega
      have hwz := hbel.size
      have hbA := (Below.refl wr.heap.size wr).alloc (Nat.le_refl _) (.cells (objC A.fObjects[k] oa oc) 125)
      have BA := Lib.hid (belowN (hbel.trans (hbA.mono hbel.size)) 1)
      have XA := Lib.hid (hX.below hbA hX.lt).drew
      have YA := Lib.hid (hY.below hbA hY.lt).drew
      have ZA := Lib.hid (Box.new wr 125 (objC A.fObjects[k] oa oc)).drew
      have hf := fun j => (hbA.cell (p := ⟨qb, qo + k * 6 + j, none⟩) (Nat.lt_of_lt_of_le lq hwz))
      have f0' : (wr.alloc (.cells (objC A.fObjects[k] oa oc) 125)).drew.cell? ⟨qb, qo + k * 6, none⟩ = some (.string B.fObjects[k].fName) := (hf 0).trans f0
      have f1' : (wr.alloc (.cells (objC A.fObjects[k] oa oc) 125)).drew.cell? ⟨qb, qo + k * 6 + 1, none⟩ = some (.int .i64 B.fObjects[k].fKind) := (hf 1).trans f1
      have f2' : (wr.alloc (.cells (objC A.fObjects[k] oa oc) 125)).drew.cell? ⟨qb, qo + k * 6 + 2, none⟩ = some (.int .i64 B.fObjects[k].fMark) := (hf 2).trans f2
      have f3' : (wr.alloc (.cells (objC A.fObjects[k] oa oc) 125)).drew.cell? ⟨qb, qo + k * 6 + 3, none⟩ = some (.int .i64 B.fObjects[k].fType) := (hf 3).trans f3
      have f4' : (wr.alloc (.cells (objC A.fObjects[k] oa oc) 125)).drew.cell? ⟨qb, qo + k * 6 + 4, none⟩ = some (.int .i64 B.fObjects[k].fValue) := (hf 4).trans f4
      have f5' : (wr.alloc (.cells (objC A.fObjects[k] oa oc) 125)).drew.cell? ⟨qb, qo + k * 6 + 5, none⟩ = some (.slice qa B.fObjects[k].fParams.length qc) := (hf 5).trans f5
      have MM := Lib.hid (hM.below (belowN hbA 1))
      have TA := Lib.hid (hZ.below hbA hZ.lt).drew
      have Ra := Lib.hid ((Rows.mono (Q' := fun k => k ≠ gm) MA.out.r.types (fun k _ hk => by omega)).below BA.out)
      have Rb := Lib.hid ((Rows.mono (Q' := fun k => k ≠ gm) MB.out.r.types (fun k _ hk => by omega)).below BA.out)
      have Ro := Lib.hid ((Rows.mono (Q' := fun k => k ≠ gm) hro (fun k _ hk => by omega)).below BA.out)
      have Rq := Lib.hid ((Rows.mono (Q' := fun k => k ≠ gm) hrq (fun k _ hk => by omega)).below BA.out)
      have lz := hZ.lt
      have lm := hM.lt
      have Hto1 := Lib.hid (R1.out.objs hlt)
      have Htp := Lib.hid (R2.out.objs hlt')
      have hol := (MA.out.mo _ (List.getElem_mem hlt)).2.1
      have Hbad := Lib.hid (fun h => IsAS.no RR.out (asV_bad (A := A) (B := B) hlt hlt' h))
      have Hnx := Lib.hid (fun h => asTo_next hlt hlt' Hto.out h)
      have nA := R1.out.2.2.1.1
      have nB := R2.out.2.2.1.1
      have NA := Lib.hid nA
      have NB := Lib.hid nB
      have lx := hX.lt
      have ly := hY.lt
      have hsa : (wr.alloc (.cells (objC A.fObjects[k] oa oc) 125)).drew.heap.size = wr.heap.size + 1 := by simp
      clear hbA hf f0 f1 f2 f3 f4 f5 hro hrq nA nB hX hY hbel hM hZ
      subst hba
      subst hbq
      generalize A.fObjects[k] = t at *
      generalize B.fObjects[k] = u at *
      go_wp2_with fail
      go_region_held3 (fun w' => w'.cell? ⟨n6, 0, none⟩ = some (.slice a2 A.fTypes.length c2) ∧ w'.cell? ⟨n6, 1, none⟩ = some (.slice b2 B.fTypes.length d2) ∧ w'.cell? ⟨n6, 2, none⟩ = some (.map (some gm)) ∧ w'.cell? ⟨wr.heap.size, 0, none⟩ = some (.string t.fName) ∧ w'.cell? ⟨wr.heap.size, 1, none⟩ = some (.int .i64 t.fKind) ∧ w'.cell? ⟨wr.heap.size, 2, none⟩ = some (.int .i64 t.fMark) ∧ w'.cell? ⟨wr.heap.size, 3, none⟩ = some (.int .i64 t.fType) ∧ w'.cell? ⟨wr.heap.size, 4, none⟩ = some (.int .i64 t.fValue) ∧ w'.cell? ⟨wr.heap.size, 5, none⟩ = some (.slice oa t.fParams.length oc) ∧ w'.cell? ⟨w.heap.size + 1, 3, none⟩ = some (.slice (some ⟨qb, qo, none⟩) B.fObjects.length d3) ∧ w'.cell? ⟨qb, qo + k * 6, none⟩ = some (.string u.fName) ∧ w'.cell? ⟨qb, qo + k * 6 + 1, none⟩ = some (.int .i64 u.fKind) ∧ w'.cell? ⟨qb, qo + k * 6 + 2, none⟩ = some (.int .i64 u.fMark) ∧ w'.cell? ⟨qb, qo + k * 6 + 3, none⟩ = some (.int .i64 u.fType) ∧ w'.cell? ⟨qb, qo + k * 6 + 4, none⟩ = some (.int .i64 u.fValue) ∧ w'.cell? ⟨qb, qo + k * 6 + 5, none⟩ = some (.slice qa u.fParams.length qc))
        (first
        | exact ⟨TA.out.cell 0, TA.out.cell 1, TA.out.cell 2, ZA.out.cell 0, ZA.out.cell 1, ZA.out.cell 2, ZA.out.cell 3, ZA.out.cell 4, ZA.out.cell 5, YA.out.cell 3, f0', f1', f2', f3', f4', f5'⟩
        | go_keep
        | (go_split_ands
           refine ⟨?_, ?_, ?_, ?_, ?_, ?_, ?_, ?_, ?_, ?_, ?_, ?_, ?_, ?_, ?_, ?_⟩ <;> (rw [hon.cellq (by first | (simp at *; omega) | (refine ⟨?_, ?_⟩ <;> first | (simp at *; omega) | (simp at *; done) | omega))]; assumption)))
        (first
          | (go_at_call 115; refine (iAlikeObj A.fTypes B.fTypes NA.out NB.out a2 b2 c2 d2 gm t u oa qa oc qc _ hol Hto1.out Htp.out MM.out Ra.out Rb.out Ro.out Rq.out).mono ?_; rintro e wu ⟨v, rfl, hv1, hv2, hon⟩; have hsu := hon.size; have V1 := Lib.hid hv1; have V2 := Lib.hid hv2; clear hv1 hv2))
      have gl := MM.out.lt
      have BF := Lib.hid (BA.out.trans (hon.below (B := w.heap.size) gB gl))
      have XF := Lib.hid (XA.out.only hon ne0)
      have YF := Lib.hid (YA.out.only hon ne1)
      have TF := Lib.hid (TA.out.only hon ne6)
      clear hon
      cases v with
      | true =>
        have hv := V1.out (by simp)
        have Hn := Lib.hid (Hnx.out hv.1)
        have MF := Lib.hid hv.2
        clear hv V1 V2
        go_wp2_with fail
        go_round
        case rel => exact ⟨k + 1, by go_num, by omega, Hn.out, MF.out, TF.out, XF.out, YF.out, BF.out⟩
        case measure => simp [intOf]; omega
      | false =>
        have Hv := Lib.hid (Hbad.out (V2.out (by simp)))
        clear V1 V2
        go_wp2_with fail
        go_ret2
        unfold PostAS
        exact ⟨_, _, rfl, Hv.out, BF.out⟩
    · have Hv := Lib.hid (IsAS.yes RR.out (show asV A B from ⟨P0.out, P1.out, P2.out, fun i h h' _ => Hto.out i h h' (by omega)⟩))
      have Hbel := Lib.hid hbel
      have hnl : ¬ (k : Int) < (A.fObjects.length : Int) := by have := P2.out; omega
      clear hbel
      go_wp2_with fail
      go_ret2
      unfold PostAS
      exact ⟨_, _, rfl, Hv.out, Hbel.out⟩
end Go.Proofs.Ytjkcbeehjgikgaa
