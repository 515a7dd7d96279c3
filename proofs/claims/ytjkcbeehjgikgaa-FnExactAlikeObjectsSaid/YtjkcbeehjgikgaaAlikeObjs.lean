
/-
  What is proved: contracts of both AlikeObjects. No condition beside what each theorem states.
-/
import Derived.Test.YtjkcbeehjgikgaaTablesOf
import Derived.Deep.RegionHeld3
namespace Go.Proofs.Ytjkcbeehjgikgaa
open Go.ChangeShapes Go.WideShapes Go.ChangeAt Go.RowKit Go.Maps Go.WideMaps

/-- What is asked of the arguments. -/
def aoOk (A B : ScopeD) (x y : Int) : Prop := scopeP A ∧ (0 ≤ x ∧ x < (A.fObjects.length : Int)) ∧ scopeP B ∧ (0 ≤ y ∧ y < (B.fObjects.length : Int))
/-- What AlikeObjects tells. -/
def IsAO (A B : ScopeD) (x y : Int) (v ok : Bool) : Prop := (¬ aoOk A B x y ∧ v = false ∧ ok = false) ∨ (aoOk A B x y ∧ ok = true ∧ ∃ (m n : Nat) (hm : m < A.fObjects.length) (hn : n < B.fObjects.length), x = (m : Int) ∧ y = (n : Int) ∧ v = alikeB A.fTypes B.fTypes A.fObjects[m] B.fObjects[n])
theorem IsAO.eq {A B : ScopeD} {x y : Int} {v ok v' ok' : Bool} (h : IsAO A B x y v ok) (h' : IsAO A B x y v' ok') : v = v' ∧ ok = ok' := by
  rcases h with ⟨h, rfl, rfl⟩ | ⟨h, rfl, m, n, hm, hn, hx, hy, rfl⟩ <;> rcases h' with ⟨h', rfl, rfl⟩ | ⟨h', rfl, m', n', hm', hn', hx', hy', rfl⟩
  · exact ⟨rfl, rfl⟩
  · exact absurd h' h
  · exact absurd h h'
  · have e1 : m = m' := by omega
    have e2 : n = n' := by omega
    subst e1
    subst e2
    exact ⟨rfl, rfl⟩
theorem scopeP.objs {A : ScopeD} (h : scopeP A) {m : Nat} (hm : m < A.fObjects.length) : objT A.fTypes A.fObjects[m] := objT_of h.2.2.1.1 (h.2.2.2.1.2.1 _ (List.getElem_mem hm))

set_option maxRecDepth 100000 in
set_option maxHeartbeats 4000000 in
theorem iIsObjNum (A : ScopeD) (x : Int) (a1 a2 a3 a4 : Option Addr) (c1 c2 c3 c4 : Nat) (w : World) :
    Calls Try.prog 116 #[.agg (scopeC A a1 a2 a3 a4 c1 c2 c3 c4), .int .i64 x] w fun e w' => e = .returned (.bool (decide (0 ≤ x ∧ x < (A.fObjects.length : Int)))) ∧ Below w.heap.size w w' := by
  have B0 := Lib.hid ((Below.refl w.heap.size w).alloc (Nat.le_refl _) (.cells (scopeC A a1 a2 a3 a4 c1 c2 c3 c4) 66))
  obtain ⟨v, hv⟩ : ∃ v, decide (0 ≤ x ∧ x < (A.fObjects.length : Int)) = v := ⟨_, rfl⟩
  rw [hv]
  by_cases h1 : 0 ≤ x
  · by_cases h2 : x < (A.fObjects.length : Int)
    · have Hv := Lib.hid (show v = true by rw [← hv]; exact decide_eq_true ⟨h1, h2⟩)
      clear hv
      go_enter Try.func116, Try.ntmps116
      go_wp2_with fail
      go_ret
      exact ⟨by rw [Hv.out]; rfl, B0.out⟩
    · have Hv := Lib.hid (show v = false by rw [← hv]; exact decide_eq_false (fun h => h2 h.2))
      clear hv
      go_enter Try.func116, Try.ntmps116
      go_wp2_with fail
      go_ret
      exact ⟨by rw [Hv.out]; rfl, B0.out⟩
  · have Hv := Lib.hid (show v = false by rw [← hv]; exact decide_eq_false (fun h => h1 h.1))
    clear hv
    go_enter Try.func116, Try.ntmps116
    go_wp2_with fail
    go_ret
    exact ⟨by rw [Hv.out]; rfl, B0.out⟩
theorem Only.cellq {g : Nat} {w w' : World} (h : Only g w w') {p : Addr} (hp : p.block < w.heap.size ∧ p.block ≠ g) : w'.cell? p = w.cell? p := World.cell?_of_block (h.block p.block hp.1 (fun e => hp.2 (by injection e)))

set_option maxRecDepth 100000 in
set_option maxHeartbeats 16000000 in
theorem sAlikeObjects (A B : ScopeD) (x y : Int) (a1 a2 a3 a4 b1 b2 b3 b4 : Option Addr) (c1 c2 c3 c4 d1 d2 d3 d4 : Nat) (w : World) (hmA : ScopeM w a1 a2 a3 a4 c1 c2 c3 c4 A) (hmB : ScopeM w b1 b2 b3 b4 d1 d2 d3 d4 B) :
    Calls Try.prog 50 #[.agg (scopeC A a1 a2 a3 a4 c1 c2 c3 c4), .int .i64 x, .agg (scopeC B b1 b2 b3 b4 d1 d2 d3 d4), .int .i64 y] w fun e w' => ∃ v ok : Bool, e = .returned (.tuple #[.bool v, .bool ok]) ∧ IsAO A B x y v ok ∧ Below w.heap.size w w' := by
  have HB := Lib.hid (((Below.refl w.heap.size w).alloc (Nat.le_refl _) (.cells (scopeC A a1 a2 a3 a4 c1 c2 c3 c4) 66)).alloc (by simp) (.cells (scopeC B b1 b2 b3 b4 d1 d2 d3 d4) 66))
  have HA := Lib.hid (hmA.below HB.out)
  have HC := Lib.hid (hmB.below HB.out)
  have HX := Lib.hid ((Box.new w 66 (scopeC A a1 a2 a3 a4 c1 c2 c3 c4)).alloc (.cells (scopeC B b1 b2 b3 b4 d1 d2 d3 d4) 66))
  have HY := Lib.hid (Box.new' (w.alloc (.cells (scopeC A a1 a2 a3 a4 c1 c2 c3 c4) 66)) 66 (scopeC B b1 b2 b3 b4 d1 d2 d3 d4) (g := w.heap.size + 1) (by simp))
  have hloA := hmA.lo
  have hloB := hmB.lo
  clear hmA hmB
  go_enter Try.func50, Try.ntmps50
  go_wp2_with fail
  refine (sl4Good A a1 a2 a3 a4 c1 c2 c3 c4 _ HA.out).mono ?_
  rintro e w1 ⟨rfl, hb⟩
  replace HB := Lib.hid (HB.out.trans (hb.mono HB.out.size))
  replace HA := Lib.hid (HA.out.below hb)
  replace HC := Lib.hid (HC.out.below hb)
  replace HX := Lib.hid (HX.out.below hb HX.out.lt)
  replace HY := Lib.hid (HY.out.below hb HY.out.lt)
  clear hb
  by_cases r1 : scopeP A
  case neg =>
    have Hv := Lib.hid (show IsAO A B x y false false from .inl ⟨fun h => r1 h.1, rfl, rfl⟩)
    rw [scopeB_false r1]
    clear r1
    go_wp2_with fail
    go_ret2
    exact ⟨_, _, rfl, Hv.out, HB.out⟩
  rw [scopeB_true r1]
  have R1 := Lib.hid r1
  clear r1
  obtain ⟨y0, y1, y2, y3, y4⟩ := box5 HY.out
  go_wp2_with fail
  clear y0 y1 y2 y3 y4
  refine (sl4Good B b1 b2 b3 b4 d1 d2 d3 d4 _ HC.out).mono ?_
  rintro e w2 ⟨rfl, hb⟩
  replace HB := Lib.hid (HB.out.trans (hb.mono HB.out.size))
  replace HA := Lib.hid (HA.out.below hb)
  replace HC := Lib.hid (HC.out.below hb)
  replace HX := Lib.hid (HX.out.below hb HX.out.lt)
  replace HY := Lib.hid (HY.out.below hb HY.out.lt)
  clear hb
  by_cases r2 : scopeP B
  case neg =>
    have Hv := Lib.hid (show IsAO A B x y false false from .inl ⟨fun h => r2 h.2.2.1, rfl, rfl⟩)
    rw [scopeB_false r2]
    clear r2
    go_wp2_with fail
    go_ret2
    exact ⟨_, _, rfl, Hv.out, HB.out⟩
  rw [scopeB_true r2]
  have R2 := Lib.hid r2
  clear r2
  obtain ⟨x0, x1, x2, x3, x4⟩ := box5 HX.out
  go_wp2_with fail
  clear x0 x1 x2 x3 x4
  refine (sIn x 0 ((A.fObjects.length : Int) - 1) _).mono ?_
  rintro e w3 ⟨rfl, hww⟩
  subst hww
  by_cases r3 : 0 ≤ x ∧ x ≤ (A.fObjects.length : Int) - 1
  case neg =>
    have Hv := Lib.hid (show IsAO A B x y false false from .inl ⟨fun h => r3 (by have := h.2.1; omega), rfl, rfl⟩)
    rw [decide_eq_false r3]
    clear r3
    go_wp2_with fail
    go_ret2
    exact ⟨_, _, rfl, Hv.out, HB.out⟩
  rw [decide_eq_true r3]
  have R3 := Lib.hid (show 0 ≤ x ∧ x < (A.fObjects.length : Int) by omega)
  clear r3
  obtain ⟨y0, y1, y2, y3, y4⟩ := box5 HY.out
  go_wp2_with fail
  clear y0 y1 y2 y3 y4
  refine (sIn y 0 ((B.fObjects.length : Int) - 1) _).mono ?_
  rintro e w4 ⟨rfl, hww⟩
  subst hww
  by_cases r4 : 0 ≤ y ∧ y ≤ (B.fObjects.length : Int) - 1
  case neg =>
    have Hv := Lib.hid (show IsAO A B x y false false from .inl ⟨fun h => r4 (by have := h.2.2.2; omega), rfl, rfl⟩)
    rw [decide_eq_false r4]
    clear r4
    go_wp2_with fail
    go_ret2
    exact ⟨_, _, rfl, Hv.out, HB.out⟩
  rw [decide_eq_true r4]
  have R4 := Lib.hid (show 0 ≤ y ∧ y < (B.fObjects.length : Int) by omega)
  clear r4
  have Hok := Lib.hid (show aoOk A B x y from ⟨R1.out, R3.out, R2.out, R4.out⟩)
  obtain ⟨m, hm⟩ : ∃ m : Nat, x = (m : Int) := ⟨x.toNat, by have := R3.out; omega⟩
  obtain ⟨n, hn⟩ : ∃ n : Nat, y = (n : Int) := ⟨y.toNat, by have := R4.out; omega⟩
  subst hm
  subst hn
  have hml : m < A.fObjects.length := by have := R3.out; omega
  have hnl : n < B.fObjects.length := by have := R4.out; omega
  have i1 : (0 : Int) ≤ (m : Int) := by omega
  have i2 : (m : Int) < (A.fObjects.length : Int) := by omega
  have j1 : (0 : Int) ≤ (n : Int) := by omega
  have j2 : (n : Int) < (B.fObjects.length : Int) := by omega
  obtain ⟨ob, oo, oa, oc, hba, lb, hro, e0, e1, e2, e3, e4, e5⟩ := object_at HA.out.r.objects hml (Below.refl _ _)
  obtain ⟨qb, qo, qa, qc, hbq, lq, hrq, f0, f1, f2, f3, f4, f5⟩ := object_at HC.out.r.objects hnl (Below.refl _ _)
  obtain ⟨x0, x1, x2, x3, x4⟩ := box5 HX.out
  obtain ⟨y0, y1, y2, y3, y4⟩ := box5 HY.out
  have lx := HX.out.lt
  have ly := HY.out.lt
  have Hto := Lib.hid (R1.out.objs hml)
  have Htp := Lib.hid (R2.out.objs hnl)
  have hol := (HA.out.mo _ (List.getElem_mem hml)).2.1
  have Hfin := Lib.hid (show ∀ v : Bool, v = alikeB A.fTypes B.fTypes A.fObjects[m] B.fObjects[n] → IsAO A B (m : Int) (n : Int) v true from fun v hv => .inr ⟨Hok.out, rfl, m, n, hml, hnl, rfl, rfl, hv⟩)
  have nA := R1.out.2.2.1.1
  have nB := R2.out.2.2.1.1
  have NA := Lib.hid nA
  have NB := Lib.hid nB
  have Ra := Lib.hid HA.out.r.types.drew
  have Rb := Lib.hid HC.out.r.types.drew
  have Ro := Lib.hid hro.drew
  have Rq := Lib.hid hrq.drew
  replace HB := Lib.hid (belowN HB.out 1)
  clear HA HC HX HY hro hrq nA nB Hok R1 R2 R3 R4 hloA hloB
  subst hba
  subst hbq
  generalize A.fObjects[m] = t at *
  generalize B.fObjects[n] = u at *
  go_wp2_with fail
  go_region_held3 (fun w' => w'.cell? ⟨w.heap.size, 0, none⟩ = some (.string A.fName) ∧ w'.cell? ⟨w.heap.size, 1, none⟩ = some (.slice a1 A.fImports.length c1) ∧ w'.cell? ⟨w.heap.size, 2, none⟩ = some (.slice a2 A.fTypes.length c2) ∧ w'.cell? ⟨w.heap.size, 3, none⟩ = some (.slice (some ⟨ob, oo, none⟩) A.fObjects.length c3) ∧ w'.cell? ⟨w.heap.size, 4, none⟩ = some (.slice a4 A.fUses.length c4) ∧ w'.cell? ⟨(w.heap.size + 1), 0, none⟩ = some (.string B.fName) ∧ w'.cell? ⟨(w.heap.size + 1), 1, none⟩ = some (.slice b1 B.fImports.length d1) ∧ w'.cell? ⟨(w.heap.size + 1), 2, none⟩ = some (.slice b2 B.fTypes.length d2) ∧ w'.cell? ⟨(w.heap.size + 1), 3, none⟩ = some (.slice (some ⟨qb, qo, none⟩) B.fObjects.length d3) ∧ w'.cell? ⟨(w.heap.size + 1), 4, none⟩ = some (.slice b4 B.fUses.length d4) ∧ w'.cell? ⟨ob, oo + m * 6, none⟩ = some (.string t.fName) ∧ w'.cell? ⟨ob, oo + m * 6 + 1, none⟩ = some (.int .i64 t.fKind) ∧ w'.cell? ⟨ob, oo + m * 6 + 2, none⟩ = some (.int .i64 t.fMark) ∧ w'.cell? ⟨ob, oo + m * 6 + 3, none⟩ = some (.int .i64 t.fType) ∧ w'.cell? ⟨ob, oo + m * 6 + 4, none⟩ = some (.int .i64 t.fValue) ∧ w'.cell? ⟨ob, oo + m * 6 + 5, none⟩ = some (.slice oa t.fParams.length oc) ∧ w'.cell? ⟨qb, qo + n * 6, none⟩ = some (.string u.fName) ∧ w'.cell? ⟨qb, qo + n * 6 + 1, none⟩ = some (.int .i64 u.fKind) ∧ w'.cell? ⟨qb, qo + n * 6 + 2, none⟩ = some (.int .i64 u.fMark) ∧ w'.cell? ⟨qb, qo + n * 6 + 3, none⟩ = some (.int .i64 u.fType) ∧ w'.cell? ⟨qb, qo + n * 6 + 4, none⟩ = some (.int .i64 u.fValue) ∧ w'.cell? ⟨qb, qo + n * 6 + 5, none⟩ = some (.slice qa u.fParams.length qc))
    (first
      | exact ⟨x0, x1, x2, x3, x4, y0, y1, y2, y3, y4, e0, e1, e2, e3, e4, e5, f0, f1, f2, f3, f4, f5⟩
      | go_keep
      | (go_split_ands
         refine ⟨?_, ?_, ?_, ?_, ?_, ?_, ?_, ?_, ?_, ?_, ?_, ?_, ?_, ?_, ?_, ?_, ?_, ?_, ?_, ?_, ?_, ?_⟩ <;> (rw [hbt.cell (by first | (simp at *; omega) | (simp at *; done) | omega)]; assumption)))
    (first
      | (go_at_call 113; refine (sl4Alike A B NA.out NB.out a1 a2 _ a4 b1 b2 _ b4 c1 c2 c3 c4 d1 d2 d3 d4 t u oa qa oc qc _ hol Hto.out Htp.out Ra.out Rb.out Ro.out Rq.out).mono ?_; rintro e wt ⟨rfl, hbt⟩; have hsz := hbt.size))
  have BF := Lib.hid (HB.out.trans (hbt.mono HB.out.size))
  have Hv := Lib.hid (Hfin.out _ rfl)
  clear hbt
  clear x0 x1 x2 x3 x4 y0 y1 y2 y3 y4 e0 e1 e2 e3 e4 e5 f0 f1 f2 f3 f4 f5
  go_wp2_with fail
  go_ret2
  exact ⟨_, _, rfl, Hv.out, BF.out⟩

set_option maxRecDepth 100000 in
set_option maxHeartbeats 16000000 in
theorem iAlikeObjects (A B : ScopeD) (x y : Int) (a1 a2 a3 a4 b1 b2 b3 b4 : Option Addr) (c1 c2 c3 c4 d1 d2 d3 d4 : Nat) (w : World) (hmA : ScopeM w a1 a2 a3 a4 c1 c2 c3 c4 A) (hmB : ScopeM w b1 b2 b3 b4 d1 d2 d3 d4 B) :
    Calls Try.prog 51 #[.agg (scopeC A a1 a2 a3 a4 c1 c2 c3 c4), .int .i64 x, .agg (scopeC B b1 b2 b3 b4 d1 d2 d3 d4), .int .i64 y] w fun e w' => ∃ v ok : Bool, e = .returned (.tuple #[.bool v, .bool ok]) ∧ IsAO A B x y v ok ∧ Below w.heap.size w w' := by
  have HB := Lib.hid (((Below.refl w.heap.size w).alloc (Nat.le_refl _) (.cells (scopeC A a1 a2 a3 a4 c1 c2 c3 c4) 66)).alloc (by simp) (.cells (scopeC B b1 b2 b3 b4 d1 d2 d3 d4) 66))
  have HA := Lib.hid (hmA.below HB.out)
  have HC := Lib.hid (hmB.below HB.out)
  have HX := Lib.hid ((Box.new w 66 (scopeC A a1 a2 a3 a4 c1 c2 c3 c4)).alloc (.cells (scopeC B b1 b2 b3 b4 d1 d2 d3 d4) 66))
  have HY := Lib.hid (Box.new' (w.alloc (.cells (scopeC A a1 a2 a3 a4 c1 c2 c3 c4) 66)) 66 (scopeC B b1 b2 b3 b4 d1 d2 d3 d4) (g := w.heap.size + 1) (by simp))
  have hloA := hmA.lo
  have hloB := hmB.lo
  clear hmA hmB
  go_enter Try.func51, Try.ntmps51
  go_wp2_with fail
  refine (iGoodScope A a1 a2 a3 a4 c1 c2 c3 c4 _ HA.out).mono ?_
  rintro e w1 ⟨rfl, hb⟩
  replace HB := Lib.hid (HB.out.trans (hb.mono HB.out.size))
  replace HA := Lib.hid (HA.out.below hb)
  replace HC := Lib.hid (HC.out.below hb)
  replace HX := Lib.hid (HX.out.below hb HX.out.lt)
  replace HY := Lib.hid (HY.out.below hb HY.out.lt)
  clear hb
  by_cases r1 : scopeP A
  case neg =>
    have Hv := Lib.hid (show IsAO A B x y false false from .inl ⟨fun h => r1 h.1, rfl, rfl⟩)
    rw [scopeB_false r1]
    clear r1
    go_wp2_with fail
    go_ret2
    exact ⟨_, _, rfl, Hv.out, HB.out⟩
  rw [scopeB_true r1]
  have R1 := Lib.hid r1
  clear r1
  obtain ⟨x0, x1, x2, x3, x4⟩ := box5 HX.out
  go_wp2_with fail
  clear x0 x1 x2 x3 x4
  refine (iIsObjNum A x a1 a2 a3 a4 c1 c2 c3 c4 _).mono ?_
  rintro e w2 ⟨rfl, hb⟩
  replace HB := Lib.hid (HB.out.trans (hb.mono HB.out.size))
  replace HA := Lib.hid (HA.out.below hb)
  replace HC := Lib.hid (HC.out.below hb)
  replace HX := Lib.hid (HX.out.below hb HX.out.lt)
  replace HY := Lib.hid (HY.out.below hb HY.out.lt)
  clear hb
  by_cases r2 : 0 ≤ x ∧ x < (A.fObjects.length : Int)
  case neg =>
    have Hv := Lib.hid (show IsAO A B x y false false from .inl ⟨fun h => r2 (by have := h.2.1; omega), rfl, rfl⟩)
    rw [decide_eq_false r2]
    clear r2
    go_wp2_with fail
    go_ret2
    exact ⟨_, _, rfl, Hv.out, HB.out⟩
  rw [decide_eq_true r2]
  have R2 := Lib.hid (show 0 ≤ x ∧ x < (A.fObjects.length : Int) by omega)
  clear r2
  obtain ⟨y0, y1, y2, y3, y4⟩ := box5 HY.out
  go_wp2_with fail
  clear y0 y1 y2 y3 y4
  refine (iGoodScope B b1 b2 b3 b4 d1 d2 d3 d4 _ HC.out).mono ?_
  rintro e w3 ⟨rfl, hb⟩
  replace HB := Lib.hid (HB.out.trans (hb.mono HB.out.size))
  replace HA := Lib.hid (HA.out.below hb)
  replace HC := Lib.hid (HC.out.below hb)
  replace HX := Lib.hid (HX.out.below hb HX.out.lt)
  replace HY := Lib.hid (HY.out.below hb HY.out.lt)
  clear hb
  by_cases r3 : scopeP B
  case neg =>
    have Hv := Lib.hid (show IsAO A B x y false false from .inl ⟨fun h => r3 h.2.2.1, rfl, rfl⟩)
    rw [scopeB_false r3]
    clear r3
    go_wp2_with fail
    go_ret2
    exact ⟨_, _, rfl, Hv.out, HB.out⟩
  rw [scopeB_true r3]
  have R3 := Lib.hid r3
  clear r3
  obtain ⟨y0, y1, y2, y3, y4⟩ := box5 HY.out
  go_wp2_with fail
  clear y0 y1 y2 y3 y4
  refine (iIsObjNum B y b1 b2 b3 b4 d1 d2 d3 d4 _).mono ?_
  rintro e w4 ⟨rfl, hb⟩
  replace HB := Lib.hid (HB.out.trans (hb.mono HB.out.size))
  replace HA := Lib.hid (HA.out.below hb)
  replace HC := Lib.hid (HC.out.below hb)
  replace HX := Lib.hid (HX.out.below hb HX.out.lt)
  replace HY := Lib.hid (HY.out.below hb HY.out.lt)
  clear hb
  by_cases r4 : 0 ≤ y ∧ y < (B.fObjects.length : Int)
  case neg =>
    have Hv := Lib.hid (show IsAO A B x y false false from .inl ⟨fun h => r4 (by have := h.2.2.2; omega), rfl, rfl⟩)
    rw [decide_eq_false r4]
    clear r4
    go_wp2_with fail
    go_ret2
    exact ⟨_, _, rfl, Hv.out, HB.out⟩
  rw [decide_eq_true r4]
  have R4 := Lib.hid (show 0 ≤ y ∧ y < (B.fObjects.length : Int) by omega)
  clear r4
  have Hok := Lib.hid (show aoOk A B x y from ⟨R1.out, R2.out, R3.out, R4.out⟩)
  obtain ⟨m, hm⟩ : ∃ m : Nat, x = (m : Int) := ⟨x.toNat, by have := R2.out; omega⟩
  obtain ⟨n, hn⟩ : ∃ n : Nat, y = (n : Int) := ⟨y.toNat, by have := R4.out; omega⟩
  subst hm
  subst hn
  have hml : m < A.fObjects.length := by have := R2.out; omega
  have hnl : n < B.fObjects.length := by have := R4.out; omega
  have i1 : (0 : Int) ≤ (m : Int) := by omega
  have i2 : (m : Int) < (A.fObjects.length : Int) := by omega
  have j1 : (0 : Int) ≤ (n : Int) := by omega
  have j2 : (n : Int) < (B.fObjects.length : Int) := by omega
  obtain ⟨ob, oo, oa, oc, hba, lb, hro, e0, e1, e2, e3, e4, e5⟩ := object_at HA.out.r.objects hml (Below.refl _ _)
  obtain ⟨qb, qo, qa, qc, hbq, lq, hrq, f0, f1, f2, f3, f4, f5⟩ := object_at HC.out.r.objects hnl (Below.refl _ _)
  obtain ⟨x0, x1, x2, x3, x4⟩ := box5 HX.out
  obtain ⟨y0, y1, y2, y3, y4⟩ := box5 HY.out
  have lx := HX.out.lt
  have ly := HY.out.lt
  have Hto := Lib.hid (R1.out.objs hml)
  have Htp := Lib.hid (R3.out.objs hnl)
  have hol := (HA.out.mo _ (List.getElem_mem hml)).2.1
  have Hfin := Lib.hid (show ∀ v : Bool, v = alikeB A.fTypes B.fTypes A.fObjects[m] B.fObjects[n] → IsAO A B (m : Int) (n : Int) v true from fun v hv => .inr ⟨Hok.out, rfl, m, n, hml, hnl, rfl, rfl, hv⟩)
  have nA := R1.out.2.2.1.1
  have nB := R3.out.2.2.1.1
  have NA := Lib.hid nA
  have NB := Lib.hid nB
  have Ra := Lib.hid (Rows.drew (Rows.mono (Q' := fun k => k ≠ (w4.heap.size + 1 + 1 + 1)) HA.out.r.types (fun k _ hk => by omega)))
  have Rb := Lib.hid (Rows.drew (Rows.mono (Q' := fun k => k ≠ (w4.heap.size + 1 + 1 + 1)) HC.out.r.types (fun k _ hk => by omega)))
  have Ro := Lib.hid (Rows.drew (Rows.mono (Q' := fun k => k ≠ (w4.heap.size + 1 + 1 + 1)) hro (fun k _ hk => by omega)))
  have Rq := Lib.hid (Rows.drew (Rows.mono (Q' := fun k => k ≠ (w4.heap.size + 1 + 1 + 1)) hrq (fun k _ hk => by omega)))
  replace HB := Lib.hid (belowN HB.out 1)
  clear HA HC HX HY hro hrq nA nB Hok R1 R2 R3 R4 hloA hloB
  subst hba
  subst hbq
  generalize A.fObjects[m] = t at *
  generalize B.fObjects[n] = u at *
  go_wp2_with fail
  go_region_held3 (fun w' => w'.cell? ⟨w.heap.size, 0, none⟩ = some (.string A.fName) ∧ w'.cell? ⟨w.heap.size, 1, none⟩ = some (.slice a1 A.fImports.length c1) ∧ w'.cell? ⟨w.heap.size, 2, none⟩ = some (.slice a2 A.fTypes.length c2) ∧ w'.cell? ⟨w.heap.size, 3, none⟩ = some (.slice (some ⟨ob, oo, none⟩) A.fObjects.length c3) ∧ w'.cell? ⟨w.heap.size, 4, none⟩ = some (.slice a4 A.fUses.length c4) ∧ w'.cell? ⟨(w.heap.size + 1), 0, none⟩ = some (.string B.fName) ∧ w'.cell? ⟨(w.heap.size + 1), 1, none⟩ = some (.slice b1 B.fImports.length d1) ∧ w'.cell? ⟨(w.heap.size + 1), 2, none⟩ = some (.slice b2 B.fTypes.length d2) ∧ w'.cell? ⟨(w.heap.size + 1), 3, none⟩ = some (.slice (some ⟨qb, qo, none⟩) B.fObjects.length d3) ∧ w'.cell? ⟨(w.heap.size + 1), 4, none⟩ = some (.slice b4 B.fUses.length d4) ∧ w'.cell? ⟨ob, oo + m * 6, none⟩ = some (.string t.fName) ∧ w'.cell? ⟨ob, oo + m * 6 + 1, none⟩ = some (.int .i64 t.fKind) ∧ w'.cell? ⟨ob, oo + m * 6 + 2, none⟩ = some (.int .i64 t.fMark) ∧ w'.cell? ⟨ob, oo + m * 6 + 3, none⟩ = some (.int .i64 t.fType) ∧ w'.cell? ⟨ob, oo + m * 6 + 4, none⟩ = some (.int .i64 t.fValue) ∧ w'.cell? ⟨ob, oo + m * 6 + 5, none⟩ = some (.slice oa t.fParams.length oc) ∧ w'.cell? ⟨qb, qo + n * 6, none⟩ = some (.string u.fName) ∧ w'.cell? ⟨qb, qo + n * 6 + 1, none⟩ = some (.int .i64 u.fKind) ∧ w'.cell? ⟨qb, qo + n * 6 + 2, none⟩ = some (.int .i64 u.fMark) ∧ w'.cell? ⟨qb, qo + n * 6 + 3, none⟩ = some (.int .i64 u.fType) ∧ w'.cell? ⟨qb, qo + n * 6 + 4, none⟩ = some (.int .i64 u.fValue) ∧ w'.cell? ⟨qb, qo + n * 6 + 5, none⟩ = some (.slice qa u.fParams.length qc))
    (first
      | exact ⟨x0, x1, x2, x3, x4, y0, y1, y2, y3, y4, e0, e1, e2, e3, e4, e5, f0, f1, f2, f3, f4, f5⟩
      | go_keep
      | (go_split_ands
         refine ⟨?_, ?_, ?_, ?_, ?_, ?_, ?_, ?_, ?_, ?_, ?_, ?_, ?_, ?_, ?_, ?_, ?_, ?_, ?_, ?_, ?_, ?_⟩ <;> (rw [hon.cellq (by first | (simp at *; omega) | (refine ⟨?_, ?_⟩ <;> first | (simp at *; omega) | (simp at *; done) | omega))]; assumption))
      | (go_split_ands
         refine ⟨?_, ?_, ?_, ?_, ?_, ?_, ?_, ?_, ?_, ?_, ?_, ?_, ?_, ?_, ?_, ?_, ?_, ?_, ?_, ?_, ?_, ?_⟩ <;> (rw [hbt.cell (by first | (simp at *; omega) | (simp at *; done) | omega)]; assumption)))
    (first
      | (go_at_call 114; refine (iTablesOf A B a1 a2 _ a4 b1 b2 _ b4 c1 c2 c3 c4 d1 d2 d3 d4 _).mono ?_; rintro e wt ⟨rfl, hmt, hbt⟩; have hsz := hbt.size; have HM := Lib.hid hmt; clear hmt; replace HB := Lib.hid (HB.out.trans (hbt.mono HB.out.size)); replace Ra := Lib.hid (Ra.out.below hbt); replace Rb := Lib.hid (Rb.out.below hbt); replace Ro := Lib.hid (Ro.out.below hbt); replace Rq := Lib.hid (Rq.out.below hbt))
      | (go_at_call 115; refine (iAlikeObj A.fTypes B.fTypes NA.out NB.out a2 b2 c2 d2 _ t u oa qa oc qc _ hol Hto.out Htp.out HM.out Ra.out Rb.out Ro.out Rq.out).mono ?_; rintro e wu ⟨v, rfl, hv1, hv2, hon⟩; have hsu := hon.size; have V1 := Lib.hid hv1; have V2 := Lib.hid hv2; clear hv1 hv2))
  have hgl := HM.out.lt
  have BF := Lib.hid (HB.out.trans (hon.below (B := w.heap.size) (by have := HB.out.size; simp at *; omega) hgl))
  have Hv := Lib.hid (Hfin.out v (by
    cases v with
    | true => rw [alikeB_true (V1.out rfl).1]
    | false => rw [alikeB_false (V2.out rfl)]))
  clear V1 V2 hon hbt
  clear x0 x1 x2 x3 x4 y0 y1 y2 y3 y4 e0 e1 e2 e3 e4 e5 f0 f1 f2 f3 f4 f5
  go_wp2_with fail
  go_ret2
  exact ⟨_, _, rfl, Hv.out, BF.out⟩
end Go.Proofs.Ytjkcbeehjgikgaa
