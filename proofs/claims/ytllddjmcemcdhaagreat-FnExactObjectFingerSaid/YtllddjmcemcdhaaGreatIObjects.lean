
/-
  What is proved: a contract of the program's areParams; a contract of the program's isObject; contracts of the program's areImports and areUses; contracts of the program's areObjects and GoodScope. No condition beside what each theorem states.
-/
import Derived.Test.YtllddjmcemcdhaaGreatUnlike
import Derived.Test.YtllddjmcemcdhaaGreatIFields
import Derived.Test.YtllddjmcemcdhaaGreatIGood
namespace Go.Proofs.YtllddjmcemcdhaaGreat
open Go.ChangeShapes Go.WideShapes Go.ChangeAt Go.RowKit

theorem take_name {ps : List ParamD} {k : Nat} (h : k < ps.length) : (ps.map ParamD.fName).take k ++ [ps[k].fName] = (ps.map ParamD.fName).take (k + 1) := by
  rw [List.take_succ_eq_append_getElem (by simpa using h)]
  simp
set_option maxRecDepth 100000 in
set_option maxHeartbeats 4000000 in
theorem iAreParams (a : Option Addr) (c n : Nat) (pa : Option Addr) (pc : Nat) (ps : List ParamD) (w : World) (hl : ps.length ≤ 1048576) (hs : ∀ p ∈ ps, p.fName.size ≤ maxLen) (hr : Rows paramS Any w pa ps) :
    Calls Tryz.prog 106 #[.slice a n c, .slice pa ps.length pc] w fun e w' => e = .returned (.bool (paramsB n ps)) ∧ Below w.heap.size w w' := by
  have Hr := Lib.hid hr
  have Hs := Lib.hid hs
  clear hr hs
  go_enter Tryz.func106, Tryz.ntmps106
  by_cases h4 : 4 < ps.length
  · have Hv := Lib.hid (paramsB_false (n := n) (ps := ps) (fun h => by have := h.1; omega))
    have h41 : (4 : Int) < (ps.length : Int) := by omega
    go_wp2_with fail
    go_ret
    exact ⟨by rw [Hv.out]; rfl, Below.refl _ _⟩
  have h41 : ¬ (4 : Int) < (ps.length : Int) := by omega
  go_wp2_with fail
  go_loopw [13, 5] (fun i x wr => ∃ (k : Nat) (v : Value), i = .int .i64 k ∧ x = v ∧ k ≤ ps.length ∧ typedTo n ps k ∧ OwnStrs wr w.heap.size v ((ps.map ParamD.fName).take k) ∧ Below w.heap.size w wr) (fun i _ _ => ps.length - (intOf i).toNat)
  case atStart => exact ⟨0, _, rfl, rfl, by omega, typed_zero, by rw [List.take_zero]; exact OwnStrs.nil, Below.refl _ _⟩
  case round =>
    obtain ⟨k, v, rfl, rfl, hk, hto, hown, hbel⟩ := hrel
    have Hto := Lib.hid hto
    have Hown := Lib.hid hown
    clear hto hown
    by_cases hlt : k < ps.length
    · obtain ⟨b, o, cs, rfl, _, hb1, hc1, hat⟩ := Hr.out k hlt
      obtain rfl : cs = [.string ps[k].fName, .bool ps[k].fByVar, .int .i64 ps[k].fType] := hat
      have hn : paramS.n = 3 := rfl
      have e0 := (hbel.cell (p := ⟨b, o + k * 3 + 0, none⟩) hb1).trans (hc1 0 (by decide))
      have e1 := (hbel.cell (p := ⟨b, o + k * 3 + 1, none⟩) hb1).trans (hc1 1 (by decide))
      have e2 := (hbel.cell (p := ⟨b, o + k * 3 + 2, none⟩) hb1).trans (hc1 2 (by decide))
      simp at e0 e1 e2
      have hsz := hbel.size
      have Hbel := Lib.hid hbel
      have Hbad := Lib.hid (fun h => paramsB_false (params_untyped (n := n) hlt h))
      have Hnx := Lib.hid (typed_next (n := n) hlt Hto.out)
      have Htk := Lib.hid (take_name hlt)
      have hlen : ((ps.map ParamD.fName).take k).length = k := by simp; omega
      clear hbel hc1
      generalize ps[k] = t at *
      by_cases m3 : 0 ≤ t.fType ∧ t.fType < (n : Int)
      · have hd := decide_eq_true m3
        have Hn := Lib.hid (Hnx.out m3)
        clear m3
        go_wp2_with (first | (go_at_call 105; refine (iTypeNumber _ _ _ _ _).mono ?_; rw [hd]; rintro e w' ⟨rfl, rfl⟩) | (at_builtin; refine wpList_pushStr rfl _ _ rfl w.heap.size _ _ ((ps.map ParamD.fName).take k) rfl (Hown.out.alloc _) _ _ rfl (by simp) (by omega) (by simp; omega) ?_))
        intro v' w4 hown4 hg4 hlt4
        have B4 := Lib.hid ((Hbel.out.alloc Hbel.out.size (.cells #[.string t.fName, .bool t.fByVar, .int .i64 t.fType] 106)).grown hg4 (by simp; omega) (fun k hk => (hlt4 k hk).1))
        rw [Htk.out] at hown4
        have O4 := Lib.hid hown4
        clear hown4 hg4 hlt4
        go_wp2_with fail
        exact ⟨⟨k + 1, _, by congr 1, rfl, by omega, Hn.out, O4.out, B4.out⟩, by simp [intOf]; omega⟩
      · have hd := decide_eq_false m3
        have Hv := Lib.hid (Hbad.out m3)
        clear m3
        go_wp2_with (go_at_call 105; refine (iTypeNumber _ _ _ _ _).mono ?_; rw [hd]; rintro e w' ⟨rfl, rfl⟩)
        go_ret
        exact ⟨by rw [Hv.out]; rfl, Hbel.out.alloc Hbel.out.size _⟩
    · have hkk : k = ps.length := by omega
      have Hto2 := Lib.hid (typed_all (show typedTo n ps ps.length by rw [← hkk]; exact Hto.out))
      have hown2 := Hown.out
      rw [hkk, List.take_of_length_le (by simp)] at hown2
      have Hown2 := Lib.hid hown2
      clear hown2
      clear hkk
      obtain ⟨a2, c2, hv2, _, _, _, hrows⟩ := Hown2.out.rows
      have Hrows := Lib.hid hrows.any
      have Hbel := Lib.hid hbel
      have hbe : namesB (ps.map ParamD.fName) = paramsB n ps := by
        by_cases hok : namesOk (ps.map ParamD.fName)
        · rw [namesB_true hok, paramsB_true ⟨by omega, Hto2.out, hok⟩]
        · rw [namesB_false hok, paramsB_false (fun h => hok h.2.2)]
      have Hbe := Lib.hid hbe
      clear hbel hrows hbe
      subst hv2
      have hun := iAreUnlike a2 c2 (ps.map ParamD.fName) wr (by simp; omega) (fun x hx => by obtain ⟨p, hp, rfl⟩ := List.mem_map.1 hx; exact Hs.out p hp) Hrows.out
      have Hun := Lib.hid hun
      clear hun
      clear Hown Hown2
      generalize ps.map ParamD.fName = L at *
      go_wp2_with fail
      refine Hun.out.mono ?_
      rintro e w5 ⟨rfl, hb5⟩
      rw [Hbe.out]
      have B5 := Lib.hid (Hbel.out.trans (hb5.mono Hbel.out.size))
      clear hb5
      go_wp2_with fail
      go_ret
      exact ⟨rfl, B5.out⟩

end Go.Proofs.YtllddjmcemcdhaaGreat

namespace Go.Proofs.YtllddjmcemcdhaaGreat
open Go.ChangeShapes Go.WideShapes Go.ChangeAt Go.RowKit

set_option maxRecDepth 100000 in
set_option maxHeartbeats 8000000 in
theorem iIsObject (a : Option Addr) (c n : Nat) (ob : ObjectD) (pa : Option Addr) (pc : Nat) (w : World) (hl : ob.fParams.length ≤ 1048576) (hs : ∀ p ∈ ob.fParams, p.fName.size ≤ maxLen) (hr : Rows paramS Any w pa ob.fParams) :
    Calls Tryz.prog 78 #[.slice a n c, .agg #[.string ob.fName, .int .i64 ob.fKind, .int .i64 ob.fMark, .int .i64 ob.fType, .int .i64 ob.fValue, .slice pa ob.fParams.length pc]] w fun e w' => e = .returned (.bool (objB n ob)) ∧ Below w.heap.size w w' := by
  have Hr := Lib.hid hr
  have Hs := Lib.hid hs
  clear hr hs
  have hT : Hid (objOk n ob → objB n ob = true) := Lib.hid objB_true
  have hF : Hid (¬ objOk n ob → objB n ob = false) := Lib.hid objB_false
  have Hp : Hid (objOk n ob ↔ (0 ≤ ob.fMark ∧ ob.fMark ≤ 2) ∧ (ob.fMark = 2 → ob.fKind = 3) ∧ ((ob.fKind = 1 ∧ ob.fType = 0 ∧ (-1000000000 ≤ ob.fValue ∧ ob.fValue ≤ 1000000000) ∧ ob.fParams.length = 0) ∨ ((ob.fKind = 2 ∨ ob.fKind = 3) ∧ (0 ≤ ob.fType ∧ ob.fType < (n : Int)) ∧ ob.fValue = 0 ∧ ob.fParams.length = 0) ∨ (ob.fKind = 4 ∧ (-1 ≤ ob.fType ∧ ob.fType < (n : Int)) ∧ ob.fValue = 0 ∧ paramsOk n ob.fParams))) := Lib.hid Iff.rfl
  have HB := Lib.hid ((Below.refl w.heap.size w).alloc (Nat.le_refl _) (.cells #[.string ob.fName, .int .i64 ob.fKind, .int .i64 ob.fMark, .int .i64 ob.fType, .int .i64 ob.fValue, .slice pa ob.fParams.length pc] 52))
  have Hpar := Lib.hid (iAreParams a c n pa pc ob.fParams (w.alloc (.cells #[.string ob.fName, .int .i64 ob.fKind, .int .i64 ob.fMark, .int .i64 ob.fType, .int .i64 ob.fValue, .slice pa ob.fParams.length pc] 52)) hl Hs.out (Hr.out.below HB.out))
  generalize objOk n ob = P at *
  generalize objB n ob = v at *
  generalize hpb : paramsB n ob.fParams = pb at *
  have Hpb : Hid (pb = true ↔ paramsOk n ob.fParams) := Lib.hid (by rw [← hpb]; unfold paramsB; simp)
  clear hpb
  generalize paramsOk n ob.fParams = PO at *
  generalize ob.fParams.length = np at *
  obtain ⟨nm, kd, mk, ty, vl, pr⟩ := ob
  simp only at *
  go_enter Tryz.func78, Tryz.ntmps78
  go_wp2_with (first | (go_at_call 105; refine (iTypeNumber _ _ _ _ _).mono ?_; rintro e w' ⟨rfl, rfl⟩))
  all_goals first
    | (go_ret
       subst_vars
       refine ⟨?_, HB.out⟩
       show Ending.returned (Value.bool _) = Ending.returned (Value.bool _)
       refine congrArg (fun b => Ending.returned (Value.bool b)) ?_
       have hp := Hp.out
       try simp only [beq_iff_eq] at *
       try simp only [bne_iff_ne, ne_eq] at *
       try simp only [beq_eq_false_iff_ne, ne_eq] at *
       try simp only [bne_eq_false_iff_eq] at *
       clear HB Hpar Hr Hs
       by_cases hnp : np = 0
       all_goals
         by_cases hP : P
         · refine Eq.trans ?_ (hT.out hP).symm
           obtain ⟨⟨g1, g2⟩, g3, g4⟩ := hp.1 hP
           rcases g4 with ⟨g4, g5, ⟨g6, g7⟩, g8⟩ | ⟨g4, ⟨g5, g6⟩, g7, g8⟩ | ⟨g4, ⟨g5, g6⟩, g7, _⟩
           all_goals first | rfl | (simp [hnp]; done) | (exfalso; omega) | (exfalso; have g9 := g3 trivial; omega)
         · refine Eq.trans ?_ (hF.out hP).symm
           first
             | rfl
             | (simp [hnp]; done)
             | (exfalso
                apply hP
                apply hp.2
                refine ⟨⟨?_, ?_⟩, ?_, .inl ⟨?_, ?_, ⟨?_, ?_⟩, ?_⟩⟩ <;> first | exact True.intro | omega)
             | (exfalso
                apply hP
                apply hp.2
                refine ⟨⟨?_, ?_⟩, ?_, .inr (.inl ⟨?_, ⟨?_, ?_⟩, ?_, ?_⟩)⟩ <;> first | exact True.intro | omega))
    | (subst_vars
       refine Hpar.out.mono ?_
       rintro e w1 ⟨rfl, hb1⟩
       have B1 := Lib.hid (HB.out.trans (hb1.mono HB.out.size))
       clear hb1
       have Hv : v = pb := by
         cases pb
         · refine hF.out (fun h => ?_)
           have h9 := (Hp.out.1 h).2.2
           have h8 : ¬ PO := fun h => by cases Hpb.out.2 h
           try simp only [beq_iff_eq] at *
           try simp only [bne_iff_ne, ne_eq] at *
           try simp only [beq_eq_false_iff_ne, ne_eq] at *
           try simp only [bne_eq_false_iff_eq] at *
           rcases h9 with h9 | h9 | h9
           · omega
           · omega
           · exact h8 h9.2.2.2
         · have h8 := Hpb.out.1 rfl
           try simp only [beq_iff_eq] at *
           try simp only [bne_iff_ne, ne_eq] at *
           try simp only [beq_eq_false_iff_ne, ne_eq] at *
           try simp only [bne_eq_false_iff_eq] at *
           exact hT.out (Hp.out.2 ⟨⟨by omega, by omega⟩, by omega, .inr (.inr ⟨by omega, ⟨by omega, by omega⟩, by first | exact True.intro | omega, h8⟩)⟩)
       have Hv := Lib.hid Hv
       go_wp2_with fail
       go_ret
       exact ⟨by rw [Hv.out]; rfl, B1.out⟩)
end Go.Proofs.YtllddjmcemcdhaaGreat

namespace Go.Proofs.YtllddjmcemcdhaaGreat
open Go.ChangeShapes Go.WideShapes Go.ChangeAt Go.RowKit Go.WideMaps Go.Maps

theorem scope_box (w : World) (s : ScopeD) (a1 a2 a3 a4 : Option Addr) (c1 c2 c3 c4 : Nat) : Box (w.alloc (.cells (scopeC s a1 a2 a3 a4 c1 c2 c3 c4) 35)) w.heap.size 35 (scopeC s a1 a2 a3 a4 c1 c2 c3 c4) := Box.new w _ _

set_option maxRecDepth 100000 in
set_option maxHeartbeats 4000000 in
theorem iAreImports (s : ScopeD) (a1 a2 a3 a4 : Option Addr) (c1 c2 c3 c4 : Nat) (w : World) (hl : s.fImports.length ≤ 1048576) (hs : ∀ x ∈ s.fImports, x.size ≤ maxLen) (hr : Rows strS Any w a1 s.fImports) :
    Calls Tryz.prog 51 #[.agg (scopeC s a1 a2 a3 a4 c1 c2 c3 c4)] w fun e w' => e = .returned (.bool (importsB s)) ∧ Below w.heap.size w w' := by
  have Hr := Lib.hid hr
  clear hr
  have X0 := Lib.hid (scope_box w s a1 a2 a3 a4 c1 c2 c3 c4)
  have B0 := Lib.hid ((Below.refl w.heap.size w).alloc (Nat.le_refl _) (.cells (scopeC s a1 a2 a3 a4 c1 c2 c3 c4) 35))
  by_cases h4 : s.fImports.length ≤ 4
  · have d : decide ((s.fImports.length : Int) ≤ 4) = true := decide_eq_true (by omega)
    have hun := iAreUnlike a1 c1 s.fImports (w.alloc (.cells (scopeC s a1 a2 a3 a4 c1 c2 c3 c4) 35)) (by omega) hs (Hr.out.below B0.out)
    have Hun := Lib.hid hun
    clear hun
    by_cases hn : namesOk s.fImports
    · have Hn := Lib.hid hn
      rw [namesB_true hn] at Hun
      clear hn
      go_enter Tryz.func51, Tryz.ntmps51
      go_wp2_with fail
      refine Hun.out.mono ?_
      rintro e w1 ⟨rfl, hb1⟩
      have X1 := Lib.hid (X0.out.below hb1 X0.out.lt)
      have B1 := Lib.hid (B0.out.trans (hb1.mono B0.out.size))
      clear hb1
      have x0 := X1.out.cell 0
      have x1 := X1.out.cell 1
      simp at x0 x1
      go_wp2_with fail
      refine (iContainsStr a1 c1 s.fImports s.fName _ hl (Hr.out.below B1.out)).mono ?_
      rintro e w2 ⟨rfl, rfl⟩
      have Hv := Lib.hid (show importsB s = !hasB s.fImports s.fName by
        by_cases hm : s.fName ∈ s.fImports
        · rw [hasB_true hm, importsB_false (fun h => h.2.2 hm)]; rfl
        · rw [hasB_false hm, importsB_true ⟨h4, Hn.out, hm⟩]; rfl)
      go_wp2_with fail
      go_ret
      exact ⟨by rw [Hv.out]; rfl, B1.out⟩
    · have Hv := Lib.hid (show importsB s = false from importsB_false (fun h => hn h.2.1))
      rw [namesB_false hn] at Hun
      clear hn
      go_enter Tryz.func51, Tryz.ntmps51
      go_wp2_with fail
      refine Hun.out.mono ?_
      rintro e w1 ⟨rfl, hb1⟩
      have B1 := Lib.hid (B0.out.trans (hb1.mono B0.out.size))
      clear hb1
      go_wp2_with fail
      go_ret
      exact ⟨by rw [Hv.out]; rfl, B1.out⟩
  · have Hv := Lib.hid (show importsB s = false from importsB_false (fun h => h4 h.1))
    have d : decide ((s.fImports.length : Int) ≤ 4) = false := decide_eq_false (by omega)
    go_enter Tryz.func51, Tryz.ntmps51
    go_wp2_with fail
    go_ret
    exact ⟨by rw [Hv.out]; rfl, B0.out⟩

theorem useKeyed : Keyed Tryz.prog 102 := Keyed.of_law (deep_law_laid laidOutP (m := 2) (by omega) (of_decide_eq_true (by kernel_rfl)) (by kernel_rfl) (by kernel_rfl))
theorem useKey {a b : ByteArray} (ha : a.size ≤ maxLen) (hb : b.size ≤ maxLen) : keyOf Tryz.prog 102 (.agg #[.string a, .string b]) = some (fullK a b) :=
  keyOf_two Tryz.underlying102 rfl rfl rfl rfl (by decide) (by decide) Tryz.underlying9 (by kernel_rfl) (by kernel_rfl) (by kernel_rfl) (of_decide_eq_true (by kernel_rfl)) ha hb
theorem useK_inj {a b a' b' : ByteArray} (ha : a.size ≤ maxLen) (hb : b.size ≤ maxLen) (ha' : a'.size ≤ maxLen) (hb' : b'.size ≤ maxLen) (h : fullK a b = fullK a' b') : a = a' ∧ b = b' := by
  have h1 := useKey ha hb
  have h2 := useKey ha' hb'
  rw [h] at h1
  have h3 := useKeyed.inj h1 h2
  simpa using h3

/-- What a table of uses tells behind k of them. -/
def toldU (l : List UseD) (k : Nat) (f : Lit → Bool) : Prop := ∀ a b : ByteArray, a.size ≤ maxLen → b.size ≤ maxLen → (f (fullK a b) = true ↔ ∃ i, ∃ h : i < l.length, i < k ∧ l[i] = ⟨a, b⟩)
theorem toldU_zero {l : List UseD} : toldU l 0 (fun _ => false) := fun _ _ _ _ => ⟨fun h => (by cases h), fun ⟨_, _, h, _⟩ => absurd h (by omega)⟩
theorem toldU_put {l : List UseD} {k : Nat} {f : Lit → Bool} (hk : k < l.length) (h1 : l[k].fMod.size ≤ maxLen) (h2 : l[k].fName.size ≤ maxLen) (h : toldU l k f) : toldU l (k + 1) (updB f (fullK l[k].fMod l[k].fName) true) := fun a b ha hb => by
  by_cases e : fullK a b = fullK l[k].fMod l[k].fName
  · rw [e, updB_same]
    obtain ⟨rfl, rfl⟩ := useK_inj ha hb h1 h2 e
    exact ⟨fun _ => ⟨k, hk, by omega, rfl⟩, fun _ => rfl⟩
  · rw [updB_other _ _ e, h a b ha hb]
    constructor
    · rintro ⟨i, hi, g1, g2⟩
      exact ⟨i, hi, by omega, g2⟩
    · rintro ⟨i, hi, g1, g2⟩
      refine ⟨i, hi, ?_, g2⟩
      by_cases e3 : i = k
      · subst e3; rw [g2] at e; exact absurd rfl e
      · omega

theorem use_at {Q : Nat → Prop} {w w' : World} {a : Option Addr} {l : List UseD} {k : Nat} (hr : Rows useS Q w a l) (hk : k < l.length) (hb : Below w.heap.size w w') : ∃ b o, a = some ⟨b, o, none⟩ ∧ b < w.heap.size ∧ w'.cell? ⟨b, o + k * 2, none⟩ = some (.string l[k].fMod) ∧ w'.cell? ⟨b, o + k * 2 + 1, none⟩ = some (.string l[k].fName) := by
  obtain ⟨b, o, cs, rfl, _, hb1, hc1, hat⟩ := hr k hk
  obtain rfl : cs = [.string l[k].fMod, .string l[k].fName] := hat
  have e0 := (hb.cell (p := ⟨b, o + k * 2 + 0, none⟩) hb1).trans (hc1 0 (by decide))
  have e1 := (hb.cell (p := ⟨b, o + k * 2 + 1, none⟩) hb1).trans (hc1 1 (by decide))
  simp at e0 e1
  exact ⟨b, o, rfl, hb1, e0, e1⟩

set_option maxRecDepth 100000 in
set_option maxHeartbeats 8000000 in
theorem iAreUses (s : ScopeD) (a1 a2 a3 a4 : Option Addr) (c1 c2 c3 c4 : Nat) (w : World) (hl : s.fImports.length ≤ 1048576) (hlu : s.fUses.length ≤ 1048576) (hs : ∀ u ∈ s.fUses, u.fMod.size ≤ maxLen ∧ u.fName.size ≤ maxLen) (hr : Rows strS Any w a1 s.fImports) (hu : Rows useS Any w a4 s.fUses) :
    Calls Tryz.prog 54 #[.agg (scopeC s a1 a2 a3 a4 c1 c2 c3 c4)] w fun e w' => e = .returned (.bool (usedB s)) ∧ Below w.heap.size w w' := by
  have Hr := Lib.hid hr
  have Hu := Lib.hid hu
  have Hs := Lib.hid hs
  clear hr hu hs
  have X0 := Lib.hid (scope_box w s a1 a2 a3 a4 c1 c2 c3 c4)
  have B0 := Lib.hid ((Below.refl w.heap.size w).alloc (Nat.le_refl _) (.cells (scopeC s a1 a2 a3 a4 c1 c2 c3 c4) 35))
  have hmm := @run_makeMap Tryz.prog
  go_enter Tryz.func54, Tryz.ntmps54
  by_cases h40 : 40 < s.fUses.length
  · have Hv := Lib.hid (show usedB s = false from usedB_false (fun h => by have := h.1; omega))
    have h41 : (40 : Int) < (s.fUses.length : Int) := by omega
    go_wp2_with fail
    go_ret
    exact ⟨by rw [Hv.out]; rfl, B0.out⟩
  have h41 : ¬ (40 : Int) < (s.fUses.length : Int) := by omega
  go_wp2_with fail
  go_loopw [14] (fun i wr => ∃ (k : Nat) (f : Lit → Bool), i = .int .i64 k ∧ k ≤ s.fUses.length ∧ usesTo s.fImports s.fUses k ∧ BMap 102 wr (w.heap.size + 1) k f ∧ toldU s.fUses k f ∧ Box wr w.heap.size 35 (scopeC s a1 a2 a3 a4 c1 c2 c3 c4) ∧ Below w.heap.size w wr) (fun i _ => s.fUses.length - (intOf i).toNat)
  case atStart => exact ⟨0, _, rfl, by omega, uses_zero, by simpa using BMap.made (k := 102) (w.alloc (.cells (scopeC s a1 a2 a3 a4 c1 c2 c3 c4) 35)), toldU_zero, X0.out.alloc _, B0.out.alloc B0.out.size _⟩
  case round =>
    clear hmm
    obtain ⟨k, f, rfl, hk, hto, hmap, htold, hX, hbel⟩ := hrel
    have Hto := Lib.hid hto
    have Hmap := Lib.hid hmap
    have Htold := Lib.hid htold
    have HX := Lib.hid hX
    clear hto hmap htold hX
    by_cases hlt : k < s.fUses.length
    · obtain ⟨b, o, hba, hb1, e0, e1⟩ := use_at Hu.out hlt hbel
      subst hba
      have Hbel := Lib.hid hbel
      have Hbad := Lib.hid (fun h => usedB_false (s := s) (fun g => uses_bad (im := s.fImports) hlt h g.2))
      have Htw := Lib.hid (fun i (hik : i < k) h => usedB_false (s := s) (fun g => uses_twice (im := s.fImports) hik hlt h g.2))
      have Hnx := Lib.hid (uses_next hlt Hto.out)
      obtain ⟨s1, s2⟩ := Hs.out s.fUses[k] (List.getElem_mem hlt)
      have Hput := Lib.hid (toldU_put hlt s1 s2 Htold.out)
      have hX2 := HX.out.alloc (.cells #[.string s.fUses[k].fMod, .string s.fUses[k].fName] 102)
      have x1 := hX2.cell 1
      simp at x1
      have hsz := hbel.size
      have hbel2 := hbel.alloc hbel.size (.cells #[.string s.fUses[k].fMod, .string s.fUses[k].fName] 102)
      have HX2 := Lib.hid hX2
      have Hbel2 := Lib.hid hbel2
      have Hri := Lib.hid (Hr.out.below hbel2)
      have Hmap2 := Lib.hid (Hmap.out.alloc (.cells #[.string s.fUses[k].fMod, .string s.fUses[k].fName] 102))
      clear hbel hX2 hbel2
      generalize hz : s.fUses[k] = t at *
      have Hz := Lib.hid hz
      clear hz
      have hkey := useKey s1 s2
      have hlook := Hmap2.out.look useKeyed Tryz.underlying134 hkey
      obtain ⟨wp, hputr, hmap3, hgrow⟩ := Hmap2.out.put useKeyed Tryz.underlying134 (by unfold maxLen; omega) hkey true
      have hX3 := HX2.out.only hgrow (by omega)
      have Hmap3 := Lib.hid hmap3
      have Hgrow := Lib.hid hgrow
      have HX3 := Lib.hid hX3
      clear hmap3 hgrow hkey hX3
      have hbox := Box.new wr 102 #[.string t.fMod, .string t.fName]
      by_cases hnn : nameP t.fName
      · have hq := nameB_true hnn
        have Hnn := Lib.hid hnn
        clear hnn
        by_cases hmi : t.fMod ∈ s.fImports
        · have hhas := hasB_true hmi
          have Hmi := Lib.hid hmi
          clear hmi
          have Hd := Lib.hid (Htold.out t.fMod t.fName s1 s2)
          generalize hfv : f (fullK t.fMod t.fName) = v at hlook
          have Hfv := Lib.hid hfv
          clear hfv
          cases v
          · have Hn := Lib.hid (Hnx.out ⟨Hnn.out, Hmi.out⟩ (fun i hi hik h => by
              have h2 := Hd.out.2 ⟨i, hi, hik, h⟩
              rw [Hfv.out] at h2
              cases h2))
            go_wp2_with (first | (go_at_call 50; refine (iGoodName _ _ s2).mono ?_; rintro e w' ⟨rfl, rfl⟩) | (go_at_call 74; refine (iContainsStr a1 c1 s.fImports t.fMod _ hl Hri.out).mono ?_; rintro e w' ⟨rfl, rfl⟩; rw [hhas]))
            exact ⟨⟨k + 1, _, by congr 1, by omega, Hn.out, Hmap3.out, Hput.out, HX3.out, Hbel2.out.grown Hgrow.out Hbel2.out.size (fun q hq => by injection hq with hq; omega)⟩, by simp [intOf]; omega⟩
          · obtain ⟨i, hi, hik, h1⟩ := Hd.out.1 Hfv.out
            have Hv := Lib.hid (Htw.out i hik (h1.trans (by cases t; rfl)))
            go_wp2_with (first | (go_at_call 50; refine (iGoodName _ _ s2).mono ?_; rintro e w' ⟨rfl, rfl⟩) | (go_at_call 74; refine (iContainsStr a1 c1 s.fImports t.fMod _ hl Hri.out).mono ?_; rintro e w' ⟨rfl, rfl⟩; rw [hhas]))
            go_ret
            exact ⟨by rw [Hv.out]; rfl, Hbel2.out⟩
        · have hhas := hasB_false hmi
          have Hv := Lib.hid (Hbad.out (fun h => hmi h.2))
          clear hmi
          go_wp2_with (first | (go_at_call 50; refine (iGoodName _ _ s2).mono ?_; rintro e w' ⟨rfl, rfl⟩) | (go_at_call 74; refine (iContainsStr a1 c1 s.fImports t.fMod _ hl Hri.out).mono ?_; rintro e w' ⟨rfl, rfl⟩; rw [hhas]))
          go_ret
          exact ⟨by rw [Hv.out]; rfl, Hbel2.out⟩
      · have hq := nameB_false hnn
        have Hv := Lib.hid (Hbad.out (fun h => hnn h.1))
        clear hnn
        go_wp2_with (go_at_call 50; refine (iGoodName _ _ s2).mono ?_; rintro e w' ⟨rfl, rfl⟩)
        go_ret
        exact ⟨by rw [Hv.out]; rfl, Hbel2.out⟩
    · have Hv := Lib.hid (show usedB s = true from usedB_true ⟨by omega, show usesTo s.fImports s.fUses s.fUses.length by rw [← show k = s.fUses.length by omega]; exact Hto.out⟩)
      have Hbel := Lib.hid hbel
      clear hbel
      go_wp2_with fail
      go_ret
      exact ⟨by rw [Hv.out]; rfl, Hbel.out⟩
end Go.Proofs.YtllddjmcemcdhaaGreat

namespace Go.Proofs.YtllddjmcemcdhaaGreat
open Go.ChangeShapes Go.WideShapes Go.ChangeAt Go.RowKit

theorem take_oname {os : List ObjectD} {k : Nat} (h : k < os.length) (l : List ByteArray) : l ++ ((os.map ObjectD.fName).take k ++ [os[k].fName]) = l ++ (os.map ObjectD.fName).take (k + 1) := by
  rw [List.take_succ_eq_append_getElem (by simpa using h)]
  simp
def objTo (n : Nat) (os : List ObjectD) (k : Nat) : Prop := ∀ i (hi : i < os.length), i < k → objOk n os[i]
theorem objTo_zero {n : Nat} {os : List ObjectD} : objTo n os 0 := fun _ _ h => absurd h (by omega)
theorem objTo_next {n : Nat} {os : List ObjectD} {k : Nat} (hk : k < os.length) (h : objTo n os k) (h1 : objOk n os[k]) : objTo n os (k + 1) := fun i hi hik => by
  by_cases e : i = k
  · subst e; exact h1
  · exact h i hi (by omega)
theorem objTo_all {n : Nat} {os : List ObjectD} (h : objTo n os os.length) : ∀ o ∈ os, objOk n o := fun o ho => by
  obtain ⟨i, hi, rfl⟩ := List.getElem_of_mem ho
  exact h i hi hi
theorem object_at {w w' : World} {a : Option Addr} {l : List ObjectD} {k : Nat} (hr : Rows objectS Any w a l) (hk : k < l.length) (hb : Below w.heap.size w w') : ∃ b o pa pc, a = some ⟨b, o, none⟩ ∧ b < w.heap.size ∧ Rows paramS Any w pa l[k].fParams ∧ w'.cell? ⟨b, o + k * 6, none⟩ = some (.string l[k].fName) ∧ w'.cell? ⟨b, o + k * 6 + 1, none⟩ = some (.int .i64 l[k].fKind) ∧ w'.cell? ⟨b, o + k * 6 + 2, none⟩ = some (.int .i64 l[k].fMark) ∧ w'.cell? ⟨b, o + k * 6 + 3, none⟩ = some (.int .i64 l[k].fType) ∧ w'.cell? ⟨b, o + k * 6 + 4, none⟩ = some (.int .i64 l[k].fValue) ∧ w'.cell? ⟨b, o + k * 6 + 5, none⟩ = some (.slice pa l[k].fParams.length pc) := by
  obtain ⟨b, o, cs, rfl, _, hb1, hc1, hat⟩ := hr k hk
  obtain ⟨pa, pc, rfl, hpr, _⟩ := hat
  have e0 := (hb.cell (p := ⟨b, o + k * 6 + 0, none⟩) hb1).trans (hc1 0 (by decide))
  have e1 := (hb.cell (p := ⟨b, o + k * 6 + 1, none⟩) hb1).trans (hc1 1 (by decide))
  have e2 := (hb.cell (p := ⟨b, o + k * 6 + 2, none⟩) hb1).trans (hc1 2 (by decide))
  have e3 := (hb.cell (p := ⟨b, o + k * 6 + 3, none⟩) hb1).trans (hc1 3 (by decide))
  have e4 := (hb.cell (p := ⟨b, o + k * 6 + 4, none⟩) hb1).trans (hc1 4 (by decide))
  have e5 := (hb.cell (p := ⟨b, o + k * 6 + 5, none⟩) hb1).trans (hc1 5 (by decide))
  simp at e0 e1 e2 e3 e4 e5
  exact ⟨b, o, pa, pc, rfl, hb1, hpr, e0, e1, e2, e3, e4, e5⟩

/-- The cells of an object. -/
abbrev objC (t : ObjectD) (pa : Option Addr) (pc : Nat) : Array Value := #[.string t.fName, .int .i64 t.fKind, .int .i64 t.fMark, .int .i64 t.fType, .int .i64 t.fValue, .slice pa t.fParams.length pc]

set_option maxRecDepth 100000 in
set_option maxHeartbeats 8000000 in
theorem iAreObjects (s : ScopeD) (a1 a2 a3 a4 : Option Addr) (c1 c2 c3 c4 : Nat) (w : World) (hl : s.fImports.length ≤ 1048576) (hlo : s.fObjects.length ≤ 1048576) (him : ∀ x ∈ s.fImports, x.size ≤ maxLen) (hs : ∀ o ∈ s.fObjects, o.fName.size ≤ maxLen ∧ o.fParams.length ≤ 1048576 ∧ ∀ p ∈ o.fParams, p.fName.size ≤ maxLen) (hr : Rows strS Any w a1 s.fImports) (ho : Rows objectS Any w a3 s.fObjects) :
    Calls Tryz.prog 53 #[.agg (scopeC s a1 a2 a3 a4 c1 c2 c3 c4)] w fun e w' => e = .returned (.bool (objectsB s)) ∧ Below w.heap.size w w' := by
  have Hr := Lib.hid hr
  have Ho := Lib.hid ho
  have Hs := Lib.hid hs
  have Him := Lib.hid him
  clear hr ho hs him
  have X0 := Lib.hid (scope_box w s a1 a2 a3 a4 c1 c2 c3 c4)
  have B0 := Lib.hid ((Below.refl w.heap.size w).alloc (Nat.le_refl _) (.cells (scopeC s a1 a2 a3 a4 c1 c2 c3 c4) 35))
  go_enter Tryz.func53, Tryz.ntmps53
  by_cases h16 : 16 < s.fObjects.length
  · have Hv := Lib.hid (show objectsB s = false from objectsB_false (fun h => by have := h.1; omega))
    have h41 : (16 : Int) < (s.fObjects.length : Int) := by omega
    go_wp2_with fail
    go_ret
    exact ⟨by rw [Hv.out]; rfl, B0.out⟩
  have h41 : ¬ (16 : Int) < (s.fObjects.length : Int) := by omega
  go_wp2_with fail
  refine (iCopiedStr a1 c1 s.fImports _ hl (Hr.out.below B0.out)).mono ?_
  rintro e w1 ⟨v0, rfl, hown0, hb1⟩
  have X1 := Lib.hid (X0.out.below hb1 X0.out.lt)
  have O1 := Lib.hid (show OwnStrs w1 (w.heap.size + 1) v0 s.fImports by simpa using hown0)
  have B1 := Lib.hid (B0.out.trans (hb1.mono B0.out.size))
  clear hb1 hown0
  have x3 := X1.out.cell 3
  simp at x3
  go_wp2_with fail
  clear x3
  go_loopw [16, 3] (fun i x wr => ∃ (k : Nat) (v : Value), i = .int .i64 k ∧ x = v ∧ k ≤ s.fObjects.length ∧ objTo s.fTypes.length s.fObjects k ∧ OwnStrs wr (w.heap.size + 1) v (s.fImports ++ (s.fObjects.map ObjectD.fName).take k) ∧ Box wr w.heap.size 35 (scopeC s a1 a2 a3 a4 c1 c2 c3 c4) ∧ Below w.heap.size w wr) (fun i _ _ => s.fObjects.length - (intOf i).toNat)
  case atStart => exact ⟨0, _, rfl, rfl, by omega, objTo_zero, by rw [List.take_zero, List.append_nil]; exact O1.out, X1.out, B1.out⟩
  case round =>
    obtain ⟨k, v, rfl, rfl, hk, hto, hown, hX, hbel⟩ := hrel
    have Hto := Lib.hid hto
    have Hown := Lib.hid hown
    have HX := Lib.hid hX
    clear hto hown hX
    by_cases hlt : k < s.fObjects.length
    · obtain ⟨b, o, pa, pc, hba, hb1, hpr, e0, e1, e2, e3, e4, e5⟩ := object_at Ho.out hlt hbel
      subst hba
      have Hbad := Lib.hid (fun (h : ¬ objOk s.fTypes.length s.fObjects[k]) => objectsB_false (s := s) (fun g => h (g.2.1 _ (List.getElem_mem hlt))))
      have Hnx := Lib.hid (objTo_next hlt Hto.out)
      have Htk := Lib.hid (take_oname hlt s.fImports)
      obtain ⟨s1, s2, s3⟩ := Hs.out s.fObjects[k] (List.getElem_mem hlt)
      have hlen : (s.fImports ++ (s.fObjects.map ObjectD.fName).take k).length = s.fImports.length + k := by simp; omega
      have hbel2 := hbel.alloc hbel.size (.cells (objC s.fObjects[k] pa pc) 52)
      have hX2 := HX.out.alloc (.cells (objC s.fObjects[k] pa pc) 52)
      have x2 := hX2.cell 2
      simp at x2
      have hsz := hbel.size
      have lt0 := HX.out.lt
      have Hob := Lib.hid (iIsObject a2 c2 s.fTypes.length s.fObjects[k] pa pc (wr.alloc (.cells (objC s.fObjects[k] pa pc) 52)) s2 s3 (hpr.below hbel2))
      have Y2 := Lib.hid (Box.new wr 52 (objC s.fObjects[k] pa pc))
      have Hbel2 := Lib.hid hbel2
      have HX2 := Lib.hid hX2
      have Ow2 := Lib.hid (Hown.out.alloc (.cells (objC s.fObjects[k] pa pc) 52))
      clear hbel hX2 hbel2 hpr s3
      generalize s.fObjects[k] = t at *
      have Hok := Lib.hid (@objB_iff s.fTypes.length t)
      generalize hob : objB s.fTypes.length t = ok at *
      clear hob
      cases ok
      · have Hv := Lib.hid (Hbad.out (fun h => by have := Hok.out.2 h; cases this))
        go_wp2_with fail
        refine Hob.out.mono ?_
        rintro e w3 ⟨rfl, hb3⟩
        have B3 := Lib.hid (Hbel2.out.trans (hb3.mono Hbel2.out.size))
        clear hb3
        go_wp2_with fail
        go_ret
        exact ⟨by rw [Hv.out]; rfl, B3.out⟩
      · have Hn := Lib.hid (Hnx.out (Hok.out.1 rfl))
        go_wp2_with fail
        refine Hob.out.mono ?_
        rintro e w3 ⟨rfl, hb3⟩
        have B3 := Lib.hid (Hbel2.out.trans (hb3.mono Hbel2.out.size))
        have X3 := Lib.hid (HX2.out.below hb3 HX2.out.lt)
        have Y3 := Lib.hid (Y2.out.below hb3 Y2.out.lt)
        have Ow3 := Lib.hid (Ow2.out.below hb3)
        have y0 := Y3.out.cell 0
        simp at y0
        have hs3 := B3.out.size
        have lt3 := X3.out.lt
        clear hb3
        go_wp2_with (at_builtin; refine wpList_pushStr rfl _ _ rfl (w.heap.size + 1) _ _ (s.fImports ++ (s.fObjects.map ObjectD.fName).take k) rfl Ow3.out _ _ rfl (by simp) (by omega) (by omega) ?_)
        intro v' w4 hown4 hg4 hlt4
        have X4 := Lib.hid (show Box w4 w.heap.size 35 _ from (hg4.block _ X3.out.lt (fun e => by have := (hlt4 _ e.symm).1; omega)).trans X3.out)
        have B4 := Lib.hid (B3.out.grown hg4 (by omega) (fun k hk => by have := (hlt4 k hk).1; omega))
        rw [Htk.out] at hown4
        have O4 := Lib.hid hown4
        clear hown4 hg4 hlt4
        go_wp2_with fail
        exact ⟨⟨k + 1, _, by congr 1, rfl, by omega, Hn.out, O4.out, X4.out, B4.out⟩, by simp [intOf]; omega⟩
    · have hkk : k = s.fObjects.length := by omega
      have Hto2 := Lib.hid (objTo_all (show objTo s.fTypes.length s.fObjects s.fObjects.length by rw [← hkk]; exact Hto.out))
      have hown2 := Hown.out
      rw [hkk, List.take_of_length_le (by simp)] at hown2
      have Hown2 := Lib.hid hown2
      clear hown2
      clear hkk
      obtain ⟨aN, cN, hv2, _, _, _, hrows⟩ := Hown2.out.rows
      have Hrows := Lib.hid hrows.any
      have Hbel := Lib.hid hbel
      have Hbe := Lib.hid (show namesB (s.fImports ++ s.fObjects.map ObjectD.fName) = objectsB s by
        by_cases hok : namesOk (s.fImports ++ s.fObjects.map ObjectD.fName)
        · rw [namesB_true hok, objectsB_true ⟨by omega, Hto2.out, hok⟩]
        · rw [namesB_false hok, objectsB_false (fun h => hok h.2.2)])
      clear hbel hrows
      subst hv2
      have hun := iAreUnlike aN cN (s.fImports ++ s.fObjects.map ObjectD.fName) wr (by simp; omega) (fun x hx => by
        rcases List.mem_append.1 hx with h | h
        · exact Him.out x h
        · obtain ⟨p, hp, rfl⟩ := List.mem_map.1 h; exact (Hs.out p hp).1) Hrows.out
      have Hun := Lib.hid hun
      clear hun Hown Hown2
      generalize s.fImports ++ s.fObjects.map ObjectD.fName = L at *
      go_wp2_with fail
      refine Hun.out.mono ?_
      rintro e w5 ⟨rfl, hb5⟩
      rw [Hbe.out]
      have B5 := Lib.hid (Hbel.out.trans (hb5.mono Hbel.out.size))
      clear hb5
      go_wp2_with fail
      go_ret
      exact ⟨rfl, B5.out⟩

/-- A scope as the language has it. -/
def scopeP (s : ScopeD) : Prop := nameP s.fName ∧ importsOk s ∧ good s.fTypes ∧ objectsOk s ∧ usedOk s
open Classical in
noncomputable def scopeB (s : ScopeD) : Bool := decide (scopeP s)
theorem scopeB_true {s : ScopeD} (h : scopeP s) : scopeB s = true := by unfold scopeB; simpa using h
theorem scopeB_false {s : ScopeD} (h : ¬ scopeP s) : scopeB s = false := by unfold scopeB; simpa using h
/-- What is known of a scope that is handed over. -/
structure ScopeM (w : World) (a1 a2 a3 a4 : Option Addr) (c1 c2 c3 c4 : Nat) (s : ScopeD) : Prop where
  nm : s.fName.size ≤ maxLen
  li : s.fImports.length ≤ 1048576
  lt : s.fTypes.length ≤ 1048576
  lo : s.fObjects.length ≤ 1048576
  lu : s.fUses.length ≤ 1048576
  ki : s.fImports.length ≤ c1 ∧ c1 ≤ maxLen
  kt : s.fTypes.length ≤ c2 ∧ c2 ≤ maxLen
  ko : s.fObjects.length ≤ c3 ∧ c3 ≤ maxLen
  ku : s.fUses.length ≤ c4 ∧ c4 ≤ maxLen
  mi : ∀ x ∈ s.fImports, x.size ≤ maxLen
  mt : ∀ t ∈ s.fTypes, t.mod
  mo : ∀ o ∈ s.fObjects, o.fName.size ≤ maxLen ∧ o.fParams.length ≤ 1048576 ∧ ∀ p ∈ o.fParams, p.fName.size ≤ maxLen
  mu : ∀ u ∈ s.fUses, u.fMod.size ≤ maxLen ∧ u.fName.size ≤ maxLen
  r : ScopeR Any w a1 a2 a3 a4 s
theorem ScopeM.below {w w' : World} {a1 a2 a3 a4 : Option Addr} {c1 c2 c3 c4 : Nat} {s : ScopeD} (h : ScopeM w a1 a2 a3 a4 c1 c2 c3 c4 s) (hb : Below w.heap.size w w') : ScopeM w' a1 a2 a3 a4 c1 c2 c3 c4 s :=
  ⟨h.nm, h.li, h.lt, h.lo, h.lu, h.ki, h.kt, h.ko, h.ku, h.mi, h.mt, h.mo, h.mu, h.r.below hb⟩

set_option maxRecDepth 100000 in
set_option maxHeartbeats 8000000 in
theorem iGoodScope (s : ScopeD) (a1 a2 a3 a4 : Option Addr) (c1 c2 c3 c4 : Nat) (w : World) (hm : ScopeM w a1 a2 a3 a4 c1 c2 c3 c4 s) :
    Calls Tryz.prog 24 #[.agg (scopeC s a1 a2 a3 a4 c1 c2 c3 c4)] w fun e w' => e = .returned (.bool (scopeB s)) ∧ Below w.heap.size w w' := by
  have H := Lib.hid hm
  have hnm := hm.nm
  clear hm
  have X0 := Lib.hid (scope_box w s a1 a2 a3 a4 c1 c2 c3 c4)
  have B0 := Lib.hid ((Below.refl w.heap.size w).alloc (Nat.le_refl _) (.cells (scopeC s a1 a2 a3 a4 c1 c2 c3 c4) 35))
  go_enter Tryz.func24, Tryz.ntmps24
  go_wp2_with fail
  refine (iGoodName s.fName _ hnm).mono ?_
  rintro e w' ⟨rfl, rfl⟩
  by_cases p1 : nameP s.fName
  case neg =>
    have Hv := Lib.hid (show scopeB s = false from scopeB_false (fun h => p1 h.1))
    rw [nameB_false p1]
    go_wp2_with fail
    go_ret
    exact ⟨by rw [Hv.out]; rfl, B0.out⟩
  rw [nameB_true p1]
  have P1 := Lib.hid p1
  clear p1
  go_wp2_with fail
  refine (iAreImports s a1 a2 a3 a4 c1 c2 c3 c4 _ H.out.li H.out.mi (H.out.r.imports.below B0.out)).mono ?_
  rintro e w1 ⟨rfl, hb1⟩
  have X1 := Lib.hid (X0.out.below hb1 X0.out.lt)
  have B1 := Lib.hid (B0.out.trans (hb1.mono B0.out.size))
  clear hb1
  by_cases p2 : importsOk s
  case neg =>
    have Hv := Lib.hid (show scopeB s = false from scopeB_false (fun h => p2 h.2.1))
    rw [importsB_false p2]
    go_wp2_with fail
    go_ret
    exact ⟨by rw [Hv.out]; rfl, B1.out⟩
  rw [importsB_true p2]
  have P2 := Lib.hid p2
  clear p2
  have x2 := X1.out.cell 2
  simp at x2
  go_wp2_with fail
  refine (iGoodTypes a2 c2 s.fTypes _ H.out.lt H.out.kt.1 H.out.kt.2 H.out.mt (H.out.r.types.below B1.out)).mono ?_
  rintro e w2 ⟨rfl, hb2⟩
  have X2 := Lib.hid (X1.out.below hb2 X1.out.lt)
  have B2 := Lib.hid (B1.out.trans (hb2.mono B1.out.size))
  clear hb2 x2
  by_cases p3 : good s.fTypes
  case neg =>
    have Hv := Lib.hid (show scopeB s = false from scopeB_false (fun h => p3 h.2.2.1))
    rw [goodB_false p3]
    go_wp2_with fail
    go_ret
    exact ⟨by rw [Hv.out]; rfl, B2.out⟩
  rw [goodB_true p3]
  have P3 := Lib.hid p3
  clear p3
  have y0 := X2.out.cell 0
  have y1 := X2.out.cell 1
  have y2 := X2.out.cell 2
  have y3 := X2.out.cell 3
  have y4 := X2.out.cell 4
  simp at y0 y1 y2 y3 y4
  go_wp2_with fail
  refine (iAreObjects s a1 a2 a3 a4 c1 c2 c3 c4 _ H.out.li H.out.lo H.out.mi H.out.mo (H.out.r.imports.below B2.out) (H.out.r.objects.below B2.out)).mono ?_
  rintro e w3 ⟨rfl, hb3⟩
  have X3 := Lib.hid (X2.out.below hb3 X2.out.lt)
  have B3 := Lib.hid (B2.out.trans (hb3.mono B2.out.size))
  clear hb3 y0 y1 y2 y3 y4
  by_cases p4 : objectsOk s
  case neg =>
    have Hv := Lib.hid (show scopeB s = false from scopeB_false (fun h => p4 h.2.2.2.1))
    rw [objectsB_false p4]
    go_wp2_with fail
    go_ret
    exact ⟨by rw [Hv.out]; rfl, B3.out⟩
  rw [objectsB_true p4]
  have P4 := Lib.hid p4
  clear p4
  have y0 := X3.out.cell 0
  have y1 := X3.out.cell 1
  have y2 := X3.out.cell 2
  have y3 := X3.out.cell 3
  have y4 := X3.out.cell 4
  simp at y0 y1 y2 y3 y4
  go_wp2_with fail
  refine (iAreUses s a1 a2 a3 a4 c1 c2 c3 c4 _ H.out.li H.out.lu H.out.mu (H.out.r.imports.below B3.out) (H.out.r.uses.below B3.out)).mono ?_
  rintro e w4 ⟨rfl, hb4⟩
  have B4 := Lib.hid (B3.out.trans (hb4.mono B3.out.size))
  clear hb4
  have Hv := Lib.hid (show scopeB s = usedB s by
    by_cases hu : usedOk s
    · rw [usedB_true hu, scopeB_true ⟨P1.out, P2.out, P3.out, P4.out, hu⟩]
    · rw [usedB_false hu, scopeB_false (fun h => hu h.2.2.2.2)])
  go_wp2_with fail
  go_ret
  exact ⟨by rw [Hv.out]; rfl, B4.out⟩
end Go.Proofs.YtllddjmcemcdhaaGreat
