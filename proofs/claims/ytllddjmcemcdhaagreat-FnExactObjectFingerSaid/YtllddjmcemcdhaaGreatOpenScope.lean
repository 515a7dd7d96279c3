
/-
  What is proved: a Scope that came in, opened; what its weight says of its parts; contracts of GoodScope handed over by the laws. No condition beside what each theorem states.
-/
import Derived.Test.YtllddjmcemcdhaaGreatToScope
import Derived.Test.YtllddjmcemcdhaaGreatSScopeGood
import Derived.Test.YtllddjmcemcdhaaGreatLaws3
namespace Go.Proofs.YtllddjmcemcdhaaGreat
open Go.ChangeShapes Go.WideShapes Go.ChangeAt Go.RowKit

theorem cellsScopeL : Tryz.prog.cellsOf 27 = 5 := by kernel_rfl
theorem c1ScopeStr : Tryz.prog.cellsOf 9 = 1 := by kernel_rfl
theorem c1ScopeImp : Tryz.prog.cellsOf 22 = 1 := by kernel_rfl
theorem c1ScopeTyp : Tryz.prog.cellsOf 23 = 1 := by kernel_rfl
theorem c1ScopeObj : Tryz.prog.cellsOf 24 = 1 := by kernel_rfl
theorem c1ScopeUse : Tryz.prog.cellsOf 25 = 1 := by kernel_rfl
theorem lenScope {l : List Value} (h : l.length = 5) : ∃ e0 e1 e2 e3 e4, l = [e0, e1, e2, e3, e4] := by
  match l, h with
  | [e0, e1, e2, e3, e4], _ => exact ⟨e0, e1, e2, e3, e4, rfl⟩
theorem openScopeL {H : Type} {enc : TypeId × Value → H} {w : World} {base : Nat} {spare : Nat → Bool} {held : Bool} (m : Nat) (cs : List Value) (x : DataW H × List MemPlace) (h : DataW.trod enc Tryz.prog w base spare held m 27 cs = some x) : ∃ (s : ScopeD) (a1 a2 a3 a4 : Option Addr) (c1 c2 c3 c4 : Nat), cs = [.string s.fName, .slice a1 s.fImports.length c1, .slice a2 s.fTypes.length c2, .slice a3 s.fObjects.length c3, .slice a4 s.fUses.length c4] ∧ ScopeR Any w a1 a2 a3 a4 s ∧ s.came := by
  obtain ⟨xs, n, rfl, _, hlen, hxs, hf⟩ := DataW.trod_struct Tryz.underlying27 h
  rw [cellsScopeL] at hlen
  obtain ⟨e0, e1, e2, e3, e4, rfl⟩ := lenScope hlen
  replace hxs : xs.length = 5 := hxs
  have h0 := hf 0 _ rfl
  change DataW.trod enc Tryz.prog w base spare held n 9 (List.take (Tryz.prog.cellsOf 9) [e0, e1, e2, e3, e4]) = xs[0]? at h0
  rw [c1ScopeStr, List.getElem?_eq_getElem (by omega)] at h0
  replace h0 : DataW.trod enc Tryz.prog w base spare held n 9 [e0] = _ := h0
  obtain ⟨v0, q0, _, k0⟩ := DataW.trod_string Tryz.underlying9 h0
  injection q0 with q0 _
  have h1 := hf 1 _ rfl
  change DataW.trod enc Tryz.prog w base spare held n 22 (List.take (Tryz.prog.cellsOf 22) [e1, e2, e3, e4]) = xs[1]? at h1
  rw [c1ScopeImp, List.getElem?_eq_getElem (by omega)] at h1
  replace h1 : DataW.trod enc Tryz.prog w base spare held n 22 [e1] = _ := h1
  obtain ⟨a1, c1, v1, q1, z1, k1, r1, s1⟩ := open_rows strS (fun t => t.size ≤ maxLen) Tryz.underlying22 cellsStrL (by decide) openStr h1
  injection q1 with q1 _
  have h2 := hf 2 _ rfl
  change DataW.trod enc Tryz.prog w base spare held n 23 (List.take (Tryz.prog.cellsOf 23) [e2, e3, e4]) = xs[2]? at h2
  rw [c1ScopeTyp, List.getElem?_eq_getElem (by omega)] at h2
  replace h2 : DataW.trod enc Tryz.prog w base spare held n 23 [e2] = _ := h2
  obtain ⟨a2, c2, v2, q2, z2, k2, r2, s2⟩ := open_rows typeS _ Tryz.underlying23 cellsTypeL (by decide) openType h2
  injection q2 with q2 _
  have h3 := hf 3 _ rfl
  change DataW.trod enc Tryz.prog w base spare held n 24 (List.take (Tryz.prog.cellsOf 24) [e3, e4]) = xs[3]? at h3
  rw [c1ScopeObj, List.getElem?_eq_getElem (by omega)] at h3
  replace h3 : DataW.trod enc Tryz.prog w base spare held n 24 [e3] = _ := h3
  obtain ⟨a3, c3, v3, q3, z3, k3, r3, s3⟩ := open_rows objectS _ Tryz.underlying24 cellsObjectL (by decide) openObject h3
  injection q3 with q3 _
  have h4 := hf 4 _ rfl
  change DataW.trod enc Tryz.prog w base spare held n 25 (List.take (Tryz.prog.cellsOf 25) [e4]) = xs[4]? at h4
  rw [c1ScopeUse, List.getElem?_eq_getElem (by omega)] at h4
  replace h4 : DataW.trod enc Tryz.prog w base spare held n 25 [e4] = _ := h4
  obtain ⟨a4, c4, v4, q4, z4, k4, r4, s4⟩ := open_rows useS _ Tryz.underlying25 cellsUseL (by decide) openUse h4
  injection q4 with q4 _
  subst q0 q1 q2 q3 q4
  exact ⟨⟨v0, v1, v2, v3, v4⟩, a1, a2, a3, a4, c1, c2, c3, c4, rfl, ⟨r1, r2, r3, r4⟩, k0, ⟨k1, s1⟩, ⟨k2, s2⟩, ⟨k3, s3⟩, k4, s4⟩
set_option maxRecDepth 100000 in
/-- A Scope among a law's arguments. -/
theorem openScope {H : Type} {enc : TypeId × Value → H} {w : World} {base : Nat} {spare : Nat → Bool} {held : Bool} {r : Go.Reach} {b : Nat} {v : Value} {d : DataW H} {p : List MemPlace} (hv : Value.okWide Tryz.prog w r b 27 v)
    (h : ∃ fuel, DataW.trod enc Tryz.prog w base spare held fuel 27 v.cells.toList = some (d, p)) : ∃ (s : ScopeD) (a1 a2 a3 a4 : Option Addr) (c1 c2 c3 c4 : Nat), v = .agg (scopeC s a1 a2 a3 a4 c1 c2 c3 c4) ∧ ScopeR Any w a1 a2 a3 a4 s ∧ s.came := by
  have hst := okWide_struct Tryz.underlying27 hv
  clear hv
  obtain ⟨cs, rfl, _⟩ := hst
  obtain ⟨fuel, h⟩ := h
  obtain ⟨s, a1, a2, a3, a4, c1, c2, c3, c4, hc, h1, h2⟩ := openScopeL fuel _ _ h
  refine ⟨s, a1, a2, a3, a4, c1, c2, c3, c4, congrArg Value.agg (Array.ext' ?_), h1, h2⟩
  exact hc

/-- What the weight of a Scope says of its parts. -/
structure ScopeK (s : ScopeD) : Prop where
  nm : s.fName.size ≤ maxLen
  li : s.fImports.length ≤ 1048576
  lt : s.fTypes.length ≤ 1048576
  lo : s.fObjects.length ≤ 1048576
  lu : s.fUses.length ≤ 1048576
  tw : ∀ x ∈ s.fTypes, x.wt ≤ 1048576
  ow : ∀ x ∈ s.fObjects, x.wt ≤ 1048576
  mi : ∀ x ∈ s.fImports, x.size ≤ maxLen
  mt : ∀ t ∈ s.fTypes, t.mod
  mo : ∀ o ∈ s.fObjects, o.fName.size ≤ maxLen ∧ o.fParams.length ≤ 1048576 ∧ ∀ p ∈ o.fParams, p.fName.size ≤ maxLen
  mu : ∀ u ∈ s.fUses, u.fMod.size ≤ maxLen ∧ u.fName.size ≤ maxLen
theorem ScopeK.of {s : ScopeD} (h : s.wt ≤ 1048576) : ScopeK s := by
  unfold ScopeD.wt at h
  obtain ⟨lt, tw, mt⟩ := type_wt (l := s.fTypes) (by omega)
  unfold wtL at h
  have ow : ∀ x ∈ s.fObjects, x.wt ≤ 1048576 := fun o ho => by have := wt_mem ObjectD.wt ho; omega
  refine ⟨by unfold maxLen; omega, by omega, lt, by omega, by omega, tw, ow, fun x hx => ?_, mt, fun o ho => ?_, fun u hu => ?_⟩
  · have := wt_mem ByteArray.size hx
    unfold maxLen
    omega
  · have h2 := ow o ho
    unfold ObjectD.wt wtL at h2
    refine ⟨by unfold maxLen; omega, by omega, fun p hp => ?_⟩
    have h4 := wt_mem ParamD.wt hp
    unfold ParamD.wt at h4 h2
    unfold maxLen
    omega
  · have h2 := wt_mem UseD.wt hu
    unfold UseD.wt at h2 h
    unfold maxLen
    exact ⟨by omega, by omega⟩
theorem ScopeK.m {s : ScopeD} (h : ScopeK s) {w : World} {b1 b2 b3 b4 : Option Addr} (hr : ScopeR Any w b1 b2 b3 b4 s) : ScopeM w b1 b2 b3 b4 s.fImports.length s.fTypes.length s.fObjects.length s.fUses.length s := by
  have m : (1048576 : Nat) ≤ maxLen := by unfold maxLen; omega
  exact ⟨h.nm, h.li, h.lt, h.lo, h.lu, ⟨Nat.le_refl _, Nat.le_trans h.li m⟩, ⟨Nat.le_refl _, Nat.le_trans h.lt m⟩, ⟨Nat.le_refl _, Nat.le_trans h.lo m⟩, ⟨Nat.le_refl _, Nat.le_trans h.lu m⟩, h.mi, h.mt, h.mo, h.mu, hr⟩
theorem ScopeR.any {Q : Nat → Prop} {w : World} {b1 b2 b3 b4 : Option Addr} {s : ScopeD} (h : ScopeR Q w b1 b2 b3 b4 s) : ScopeR Any w b1 b2 b3 b4 s := ⟨h.imports.any, h.types.any, h.objects.any, h.uses.any⟩
theorem ScopeR.drew {Q : Nat → Prop} {w : World} {b1 b2 b3 b4 : Option Addr} {s : ScopeD} (h : ScopeR Q w b1 b2 b3 b4 s) : ScopeR Q w.drew b1 b2 b3 b4 s := ⟨h.imports.drew, h.types.drew, h.objects.drew, h.uses.drew⟩
theorem box5 {w : World} {g : Nat} {t : TypeId} {s : ScopeD} {a1 a2 a3 a4 : Option Addr} {c1 c2 c3 c4 : Nat} (h : Box w g t (scopeC s a1 a2 a3 a4 c1 c2 c3 c4)) : w.cell? ⟨g, 0, none⟩ = some (.string s.fName) ∧ w.cell? ⟨g, 1, none⟩ = some (.slice a1 s.fImports.length c1) ∧ w.cell? ⟨g, 2, none⟩ = some (.slice a2 s.fTypes.length c2) ∧ w.cell? ⟨g, 3, none⟩ = some (.slice a3 s.fObjects.length c3) ∧ w.cell? ⟨g, 4, none⟩ = some (.slice a4 s.fUses.length c4) :=
  ⟨h.cell 0, h.cell 1, h.cell 2, h.cell 3, h.cell 4⟩

end Go.Proofs.YtllddjmcemcdhaaGreat
