
/-
  What is proved: contracts of the program's areObjects and GoodScope. No condition beside what each theorem states.
-/
import Derived.Test.YtbpbebhnledgnaaGreatIObject
import Derived.Test.YtbpbebhnledgnaaGreatIGood
namespace Go.Proofs.YtbpbebhnledgnaaGreat
open Go.ChangeShapes Go.WideShapes Go.ChangeAt Go.RowKit

theorem take_oname {os : List ObjectD} {k : Nat} (h : k < os.length) (l : List ByteArray) : l ++ ((os.map ObjectD.fName).take k ++ [os[k].fName]) = l ++ (os.map ObjectD.fName).take (k + 1) := by
  rw [List.take_succ_eq_append_getElem (by simpa using h)]
  simp
def objTo (n : Nat) (os : List ObjectD) (k : Nat) : Prop := ∀ i (hi : i < os.length), i < k → objOk n os[i]
theorem objTo_zero {n : Nat} {os : List ObjectD} : objTo n os 0 := fun _ _ h => absurd h (by omega)
theorem objTo_next {n : Nat} {os : List ObjectD} {k : Nat} (hk : k < os.length) (h : objTo n os k) (h1 : objOk n os[k]) : objTo n os (k + 1) := fun i hi hik => by
  by_cases e : i = k
  · subst e; exact h1
  · exact h i hi (by omega)
theorem objTo_all {n : Nat} {os : List ObjectD} (h : objTo n os os.length) : ∀ o ∈ os, objOk n o := fun o ho => by
  obtain ⟨i, hi, rfl⟩ := List.getElem_of_mem ho
  exact h i hi hi
theorem object_at {w w' : World} {a : Option Addr} {l : List ObjectD} {k : Nat} (hr : Rows objectS Any w a l) (hk : k < l.length) (hb : Below w.heap.size w w') : ∃ b o pa pc, a = some ⟨b, o, none⟩ ∧ b < w.heap.size ∧ Rows paramS Any w pa l[k].fParams ∧ w'.cell? ⟨b, o + k * 6, none⟩ = some (.string l[k].fName) ∧ w'.cell? ⟨b, o + k * 6 + 1, none⟩ = some (.int .i64 l[k].fKind) ∧ w'.cell? ⟨b, o + k * 6 + 2, none⟩ = some (.int .i64 l[k].fMark) ∧ w'.cell? ⟨b, o + k * 6 + 3, none⟩ = some (.int .i64 l[k].fType) ∧ w'.cell? ⟨b, o + k * 6 + 4, none⟩ = some (.int .i64 l[k].fValue) ∧ w'.cell? ⟨b, o + k * 6 + 5, none⟩ = some (.slice pa l[k].fParams.length pc) := by
  obtain ⟨b, o, cs, rfl, _, hb1, hc1, hat⟩ := hr k hk
  obtain ⟨pa, pc, rfl, hpr, _⟩ := hat
  have e0 := (hb.cell (p := ⟨b, o + k * 6 + 0, none⟩) hb1).trans (hc1 0 (by decide))
  have e1 := (hb.cell (p := ⟨b, o + k * 6 + 1, none⟩) hb1).trans (hc1 1 (by decide))
  have e2 := (hb.cell (p := ⟨b, o + k * 6 + 2, none⟩) hb1).trans (hc1 2 (by decide))
  have e3 := (hb.cell (p := ⟨b, o + k * 6 + 3, none⟩) hb1).trans (hc1 3 (by decide))
  have e4 := (hb.cell (p := ⟨b, o + k * 6 + 4, none⟩) hb1).trans (hc1 4 (by decide))
  have e5 := (hb.cell (p := ⟨b, o + k * 6 + 5, none⟩) hb1).trans (hc1 5 (by decide))
  simp at e0 e1 e2 e3 e4 e5
  exact ⟨b, o, pa, pc, rfl, hb1, hpr, e0, e1, e2, e3, e4, e5⟩

/-- The cells of an object. -/
abbrev objC (t : ObjectD) (pa : Option Addr) (pc : Nat) : Array Value := #[.string t.fName, .int .i64 t.fKind, .int .i64 t.fMark, .int .i64 t.fType, .int .i64 t.fValue, .slice pa t.fParams.length pc]

set_option maxRecDepth 100000 in
set_option maxHeartbeats 8000000 in
theorem iAreObjects (s : ScopeD) (a1 a2 a3 a4 : Option Addr) (c1 c2 c3 c4 : Nat) (w : World) (hl : s.fImports.length ≤ 1048576) (hlo : s.fObjects.length ≤ 1048576) (him : ∀ x ∈ s.fImports, x.size ≤ maxLen) (hs : ∀ o ∈ s.fObjects, o.fName.size ≤ maxLen ∧ o.fParams.length ≤ 1048576 ∧ ∀ p ∈ o.fParams, p.fName.size ≤ maxLen) (hr : Rows strS Any w a1 s.fImports) (ho : Rows objectS Any w a3 s.fObjects) :
    Calls Tryz.prog 72 #[.agg (scopeC s a1 a2 a3 a4 c1 c2 c3 c4)] w fun e w' => e = .returned (.bool (objectsB s)) ∧ Below w.heap.size w w' := by
  have Hr := Lib.hid hr
  have Ho := Lib.hid ho
  have Hs := Lib.hid hs
  have Him := Lib.hid him
  clear hr ho hs him
  have X0 := Lib.hid (scope_box w s a1 a2 a3 a4 c1 c2 c3 c4)
  have B0 := Lib.hid ((Below.refl w.heap.size w).alloc (Nat.le_refl _) (.cells (scopeC s a1 a2 a3 a4 c1 c2 c3 c4) 33))
  go_enter Tryz.func72, Tryz.ntmps72
  by_cases h16 : 16 < s.fObjects.length
  · have Hv := Lib.hid (show objectsB s = false from objectsB_false (fun h => by have := h.1; omega))
    have h41 : (16 : Int) < (s.fObjects.length : Int) := by omega
    go_wp2_with fail
    go_ret
    exact ⟨by rw [Hv.out]; rfl, B0.out⟩
  have h41 : ¬ (16 : Int) < (s.fObjects.length : Int) := by omega
  go_wp2_with fail
  refine (iCopiedStr a1 c1 s.fImports _ hl (Hr.out.below B0.out)).mono ?_
  rintro e w1 ⟨v0, rfl, hown0, hb1⟩
  have X1 := Lib.hid (X0.out.below hb1 X0.out.lt)
  have O1 := Lib.hid (show OwnStrs w1 (w.heap.size + 1) v0 s.fImports by simpa using hown0)
  have B1 := Lib.hid (B0.out.trans (hb1.mono B0.out.size))
  clear hb1 hown0
  have x3 := X1.out.cell 3
  simp at x3
  go_wp2_with fail
  clear x3
  go_loopw [16, 3] (fun i x wr => ∃ (k : Nat) (v : Value), i = .int .i64 k ∧ x = v ∧ k ≤ s.fObjects.length ∧ objTo s.fTypes.length s.fObjects k ∧ OwnStrs wr (w.heap.size + 1) v (s.fImports ++ (s.fObjects.map ObjectD.fName).take k) ∧ Box wr w.heap.size 33 (scopeC s a1 a2 a3 a4 c1 c2 c3 c4) ∧ Below w.heap.size w wr) (fun i _ _ => s.fObjects.length - (intOf i).toNat)
  case atStart => exact ⟨0, _, rfl, rfl, by omega, objTo_zero, by rw [List.take_zero, List.append_nil]; exact O1.out, X1.out, B1.out⟩
  case round =>
    obtain ⟨k, v, rfl, rfl, hk, hto, hown, hX, hbel⟩ := hrel
    have Hto := Lib.hid hto
    have Hown := Lib.hid hown
    have HX := Lib.hid hX
    clear hto hown hX
    by_cases hlt : k < s.fObjects.length
    · obtain ⟨b, o, pa, pc, hba, hb1, hpr, e0, e1, e2, e3, e4, e5⟩ := object_at Ho.out hlt hbel
      subst hba
      have Hbad := Lib.hid (fun (h : ¬ objOk s.fTypes.length s.fObjects[k]) => objectsB_false (s := s) (fun g => h (g.2.1 _ (List.getElem_mem hlt))))
      have Hnx := Lib.hid (objTo_next hlt Hto.out)
      have Htk := Lib.hid (take_oname hlt s.fImports)
      obtain ⟨s1, s2, s3⟩ := Hs.out s.fObjects[k] (List.getElem_mem hlt)
      have hlen : (s.fImports ++ (s.fObjects.map ObjectD.fName).take k).length = s.fImports.length + k := by simp; omega
      have hbel2 := hbel.alloc hbel.size (.cells (objC s.fObjects[k] pa pc) 86)
      have hX2 := HX.out.alloc (.cells (objC s.fObjects[k] pa pc) 86)
      have x2 := hX2.cell 2
      simp at x2
      have hsz := hbel.size
      have lt0 := HX.out.lt
      have Hob := Lib.hid (iIsObject a2 c2 s.fTypes.length s.fObjects[k] pa pc (wr.alloc (.cells (objC s.fObjects[k] pa pc) 86)) s2 s3 (hpr.below hbel2))
      have Y2 := Lib.hid (Box.new wr 86 (objC s.fObjects[k] pa pc))
      have Hbel2 := Lib.hid hbel2
      have HX2 := Lib.hid hX2
      have Ow2 := Lib.hid (Hown.out.alloc (.cells (objC s.fObjects[k] pa pc) 86))
      clear hbel hX2 hbel2 hpr s3
      generalize s.fObjects[k] = t at *
      have Hok := Lib.hid (@objB_iff s.fTypes.length t)
      generalize hob : objB s.fTypes.length t = ok at *
      clear hob
      cases ok
      · have Hv := Lib.hid (Hbad.out (fun h => by have := Hok.out.2 h; cases this))
        go_wp2_with fail
        refine Hob.out.mono ?_
        rintro e w3 ⟨rfl, hb3⟩
        have B3 := Lib.hid (Hbel2.out.trans (hb3.mono Hbel2.out.size))
        clear hb3
        go_wp2_with fail
        go_ret
        exact ⟨by rw [Hv.out]; rfl, B3.out⟩
      · have Hn := Lib.hid (Hnx.out (Hok.out.1 rfl))
        go_wp2_with fail
        refine Hob.out.mono ?_
        rintro e w3 ⟨rfl, hb3⟩
        have B3 := Lib.hid (Hbel2.out.trans (hb3.mono Hbel2.out.size))
        have X3 := Lib.hid (HX2.out.below hb3 HX2.out.lt)
        have Y3 := Lib.hid (Y2.out.below hb3 Y2.out.lt)
        have Ow3 := Lib.hid (Ow2.out.below hb3)
        have y0 := Y3.out.cell 0
        simp at y0
        have hs3 := B3.out.size
        have lt3 := X3.out.lt
        clear hb3
        go_wp2_with (at_builtin; refine wpList_pushStr rfl _ _ rfl (w.heap.size + 1) _ _ (s.fImports ++ (s.fObjects.map ObjectD.fName).take k) rfl Ow3.out _ _ rfl (by simp) (by omega) (by omega) ?_)
        intro v' w4 hown4 hg4 hlt4
        have X4 := Lib.hid (show Box w4 w.heap.size 33 _ from (hg4.block _ X3.out.lt (fun e => by have := (hlt4 _ e.symm).1; omega)).trans X3.out)
        have B4 := Lib.hid (B3.out.grown hg4 (by omega) (fun k hk => by have := (hlt4 k hk).1; omega))
        rw [Htk.out] at hown4
        have O4 := Lib.hid hown4
        clear hown4 hg4 hlt4
        go_wp2_with fail
        exact ⟨⟨k + 1, _, by congr 1, rfl, by omega, Hn.out, O4.out, X4.out, B4.out⟩, by simp [intOf]; omega⟩
    · have hkk : k = s.fObjects.length := by omega
      have Hto2 := Lib.hid (objTo_all (show objTo s.fTypes.length s.fObjects s.fObjects.length by rw [← hkk]; exact Hto.out))
      have hown2 := Hown.out
      rw [hkk, List.take_of_length_le (by simp)] at hown2
      have Hown2 := Lib.hid hown2
      clear hown2
      clear hkk
      obtain ⟨aN, cN, hv2, _, _, _, hrows⟩ := Hown2.out.rows
      have Hrows := Lib.hid hrows.any
      have Hbel := Lib.hid hbel
      have Hbe := Lib.hid (show namesB (s.fImports ++ s.fObjects.map ObjectD.fName) = objectsB s by
        by_cases hok : namesOk (s.fImports ++ s.fObjects.map ObjectD.fName)
        · rw [namesB_true hok, objectsB_true ⟨by omega, Hto2.out, hok⟩]
        · rw [namesB_false hok, objectsB_false (fun h => hok h.2.2)])
      clear hbel hrows
      subst hv2
      have hun := iAreUnlike aN cN (s.fImports ++ s.fObjects.map ObjectD.fName) wr (by simp; omega) (fun x hx => by
        rcases List.mem_append.1 hx with h | h
        · exact Him.out x h
        · obtain ⟨p, hp, rfl⟩ := List.mem_map.1 h; exact (Hs.out p hp).1) Hrows.out
      have Hun := Lib.hid hun
      clear hun Hown Hown2
      generalize s.fImports ++ s.fObjects.map ObjectD.fName = L at *
      go_wp2_with fail
      refine Hun.out.mono ?_
      rintro e w5 ⟨rfl, hb5⟩
      rw [Hbe.out]
      have B5 := Lib.hid (Hbel.out.trans (hb5.mono Hbel.out.size))
      clear hb5
      go_wp2_with fail
      go_ret
      exact ⟨rfl, B5.out⟩

/-- A scope as the language has it. -/
def scopeP (s : ScopeD) : Prop := nameP s.fName ∧ importsOk s ∧ good s.fTypes ∧ objectsOk s ∧ usedOk s
open Classical in
noncomputable def scopeB (s : ScopeD) : Bool := decide (scopeP s)
theorem scopeB_true {s : ScopeD} (h : scopeP s) : scopeB s = true := by unfold scopeB; simpa using h
theorem scopeB_false {s : ScopeD} (h : ¬ scopeP s) : scopeB s = false := by unfold scopeB; simpa using h
/-- What is known of a scope that is handed over. -/
structure ScopeM (w : World) (a1 a2 a3 a4 : Option Addr) (c1 c2 c3 c4 : Nat) (s : ScopeD) : Prop where
  nm : s.fName.size ≤ maxLen
  li : s.fImports.length ≤ 1048576
  lt : s.fTypes.length ≤ 1048576
  lo : s.fObjects.length ≤ 1048576
  lu : s.fUses.length ≤ 1048576
  ki : s.fImports.length ≤ c1 ∧ c1 ≤ maxLen
  kt : s.fTypes.length ≤ c2 ∧ c2 ≤ maxLen
  ko : s.fObjects.length ≤ c3 ∧ c3 ≤ maxLen
  ku : s.fUses.length ≤ c4 ∧ c4 ≤ maxLen
  mi : ∀ x ∈ s.fImports, x.size ≤ maxLen
  mt : ∀ t ∈ s.fTypes, t.mod
  mo : ∀ o ∈ s.fObjects, o.fName.size ≤ maxLen ∧ o.fParams.length ≤ 1048576 ∧ ∀ p ∈ o.fParams, p.fName.size ≤ maxLen
  mu : ∀ u ∈ s.fUses, u.fMod.size ≤ maxLen ∧ u.fName.size ≤ maxLen
  r : ScopeR Any w a1 a2 a3 a4 s
theorem ScopeM.below {w w' : World} {a1 a2 a3 a4 : Option Addr} {c1 c2 c3 c4 : Nat} {s : ScopeD} (h : ScopeM w a1 a2 a3 a4 c1 c2 c3 c4 s) (hb : Below w.heap.size w w') : ScopeM w' a1 a2 a3 a4 c1 c2 c3 c4 s :=
  ⟨h.nm, h.li, h.lt, h.lo, h.lu, h.ki, h.kt, h.ko, h.ku, h.mi, h.mt, h.mo, h.mu, h.r.below hb⟩

set_option maxRecDepth 100000 in
set_option maxHeartbeats 8000000 in
theorem iGoodScope (s : ScopeD) (a1 a2 a3 a4 : Option Addr) (c1 c2 c3 c4 : Nat) (w : World) (hm : ScopeM w a1 a2 a3 a4 c1 c2 c3 c4 s) :
    Calls Tryz.prog 33 #[.agg (scopeC s a1 a2 a3 a4 c1 c2 c3 c4)] w fun e w' => e = .returned (.bool (scopeB s)) ∧ Below w.heap.size w w' := by
  have H := Lib.hid hm
  have hnm := hm.nm
  clear hm
  have X0 := Lib.hid (scope_box w s a1 a2 a3 a4 c1 c2 c3 c4)
  have B0 := Lib.hid ((Below.refl w.heap.size w).alloc (Nat.le_refl _) (.cells (scopeC s a1 a2 a3 a4 c1 c2 c3 c4) 33))
  go_enter Tryz.func33, Tryz.ntmps33
  go_wp2_with fail
  refine (iGoodName s.fName _ hnm).mono ?_
  rintro e w' ⟨rfl, rfl⟩
  by_cases p1 : nameP s.fName
  case neg =>
    have Hv := Lib.hid (show scopeB s = false from scopeB_false (fun h => p1 h.1))
    rw [nameB_false p1]
    go_wp2_with fail
    go_ret
    exact ⟨by rw [Hv.out]; rfl, B0.out⟩
  rw [nameB_true p1]
  have P1 := Lib.hid p1
  clear p1
  go_wp2_with fail
  refine (iAreImports s a1 a2 a3 a4 c1 c2 c3 c4 _ H.out.li H.out.mi (H.out.r.imports.below B0.out)).mono ?_
  rintro e w1 ⟨rfl, hb1⟩
  have X1 := Lib.hid (X0.out.below hb1 X0.out.lt)
  have B1 := Lib.hid (B0.out.trans (hb1.mono B0.out.size))
  clear hb1
  by_cases p2 : importsOk s
  case neg =>
    have Hv := Lib.hid (show scopeB s = false from scopeB_false (fun h => p2 h.2.1))
    rw [importsB_false p2]
    go_wp2_with fail
    go_ret
    exact ⟨by rw [Hv.out]; rfl, B1.out⟩
  rw [importsB_true p2]
  have P2 := Lib.hid p2
  clear p2
  have x2 := X1.out.cell 2
  simp at x2
  go_wp2_with fail
  refine (iGoodTypes a2 c2 s.fTypes _ H.out.lt H.out.kt.1 H.out.kt.2 H.out.mt (H.out.r.types.below B1.out)).mono ?_
  rintro e w2 ⟨rfl, hb2⟩
  have X2 := Lib.hid (X1.out.below hb2 X1.out.lt)
  have B2 := Lib.hid (B1.out.trans (hb2.mono B1.out.size))
  clear hb2 x2
  by_cases p3 : good s.fTypes
  case neg =>
    have Hv := Lib.hid (show scopeB s = false from scopeB_false (fun h => p3 h.2.2.1))
    rw [goodB_false p3]
    go_wp2_with fail
    go_ret
    exact ⟨by rw [Hv.out]; rfl, B2.out⟩
  rw [goodB_true p3]
  have P3 := Lib.hid p3
  clear p3
  have y0 := X2.out.cell 0
  have y1 := X2.out.cell 1
  have y2 := X2.out.cell 2
  have y3 := X2.out.cell 3
  have y4 := X2.out.cell 4
  simp at y0 y1 y2 y3 y4
  go_wp2_with fail
  refine (iAreObjects s a1 a2 a3 a4 c1 c2 c3 c4 _ H.out.li H.out.lo H.out.mi H.out.mo (H.out.r.imports.below B2.out) (H.out.r.objects.below B2.out)).mono ?_
  rintro e w3 ⟨rfl, hb3⟩
  have X3 := Lib.hid (X2.out.below hb3 X2.out.lt)
  have B3 := Lib.hid (B2.out.trans (hb3.mono B2.out.size))
  clear hb3 y0 y1 y2 y3 y4
  by_cases p4 : objectsOk s
  case neg =>
    have Hv := Lib.hid (show scopeB s = false from scopeB_false (fun h => p4 h.2.2.2.1))
    rw [objectsB_false p4]
    go_wp2_with fail
    go_ret
    exact ⟨by rw [Hv.out]; rfl, B3.out⟩
  rw [objectsB_true p4]
  have P4 := Lib.hid p4
  clear p4
  have y0 := X3.out.cell 0
  have y1 := X3.out.cell 1
  have y2 := X3.out.cell 2
  have y3 := X3.out.cell 3
  have y4 := X3.out.cell 4
  simp at y0 y1 y2 y3 y4
  go_wp2_with fail
  refine (iAreUses s a1 a2 a3 a4 c1 c2 c3 c4 _ H.out.li H.out.lu H.out.mu (H.out.r.imports.below B3.out) (H.out.r.uses.below B3.out)).mono ?_
  rintro e w4 ⟨rfl, hb4⟩
  have B4 := Lib.hid (B3.out.trans (hb4.mono B3.out.size))
  clear hb4
  have Hv := Lib.hid (show scopeB s = usedB s by
    by_cases hu : usedOk s
    · rw [usedB_true hu, scopeB_true ⟨P1.out, P2.out, P3.out, P4.out, hu⟩]
    · rw [usedB_false hu, scopeB_false (fun h => hu h.2.2.2.2)])
  go_wp2_with fail
  go_ret
  exact ⟨by rw [Hv.out]; rfl, B4.out⟩
end Go.Proofs.YtbpbebhnledgnaaGreat
