
/-
  What is proved: contracts of slices.EqualFunc on types and objects, of the model's l4SameType, l4SameObject; a contract of the program's SameScope. No condition beside what each theorem states.
-/
import Derived.Test.YtaccifjkeblhpaaGreatSameParts
import Derived.Test.YtaccifjkeblhpaaGreatOpenScope
namespace Go.Proofs.YtaccifjkeblhpaaGreat
open Go.ChangeShapes Go.WideShapes Go.ChangeAt Go.RowKit

set_option maxRecDepth 100000 in
set_option maxHeartbeats 8000000 in
theorem iEqualTypes (a a' : Option Addr) (c c' : Nat) (l m : List TypeD) (w : World) (hl : l.length ≤ 1048576) (hs : ∀ t ∈ l, t.fFields.length ≤ 1048576) (hr : Rows typeS Any w a l) (hr' : Rows typeS Any w a' m) :
    Calls Tryz.prog 133 #[.slice a l.length c, .slice a' m.length c', .func (.func 134) #[] #[]] w fun e w' => e = .returned (.bool (sameB l m)) ∧ Below w.heap.size w w' := by
  have Hr := Lib.hid hr
  have Hr' := Lib.hid hr'
  have Hs := Lib.hid hs
  clear hr hr' hs
  by_cases hlen : m.length = l.length
  · rw [hlen]
    have Hlen := Lib.hid hlen
    clear hlen
    go_enter Tryz.func133, Tryz.ntmps133
    go_wp2_with fail
    go_loopw [17] (fun i wr => ∃ k : Nat, i = .int .i64 k ∧ k ≤ l.length ∧ agreeTo l m k ∧ Below w.heap.size w wr) (fun i _ => l.length - (intOf i).toNat)
    case atStart => exact ⟨0, rfl, by omega, agree_zero, Below.refl _ _⟩
    case round =>
      obtain ⟨k, rfl, hk, hto, hbel⟩ := hrel
      have Hto := Lib.hid hto
      clear hto
      by_cases hlt : k < l.length
      · have hlt' : k < m.length := by rw [Hlen.out]; exact hlt
        obtain ⟨b, o, cse, rfl, _, hbe, hce, hate⟩ := Hr.out k hlt
        obtain ⟨a3, c3, rfl, hfe, _⟩ := hate
        have e0 := (hbel.cell (p := ⟨b, o + k * 6 + 0, none⟩) hbe).trans (hce 0 (by decide))
        have e1 := (hbel.cell (p := ⟨b, o + k * 6 + 1, none⟩) hbe).trans (hce 1 (by decide))
        have e2 := (hbel.cell (p := ⟨b, o + k * 6 + 2, none⟩) hbe).trans (hce 2 (by decide))
        have e3 := (hbel.cell (p := ⟨b, o + k * 6 + 3, none⟩) hbe).trans (hce 3 (by decide))
        have e4 := (hbel.cell (p := ⟨b, o + k * 6 + 4, none⟩) hbe).trans (hce 4 (by decide))
        have e5 := (hbel.cell (p := ⟨b, o + k * 6 + 5, none⟩) hbe).trans (hce 5 (by decide))
        have hbel1 := hbel.alloc hbel.size (.cells #[.int .i64 l[k].fKind, .int .i64 l[k].fLong, .int .i64 l[k].fBase, .slice a3 l[k].fFields.length c3, .string l[k].fOwner, .string l[k].fName] 72)
        obtain ⟨b', o', csq, rfl, _, hbq, hcq, hatq⟩ := Hr'.out k hlt'
        obtain ⟨b3, d3, rfl, hfq, _⟩ := hatq
        have q0 := (hbel1.cell (p := ⟨b', o' + k * 6 + 0, none⟩) hbq).trans (hcq 0 (by decide))
        have q1 := (hbel1.cell (p := ⟨b', o' + k * 6 + 1, none⟩) hbq).trans (hcq 1 (by decide))
        have q2 := (hbel1.cell (p := ⟨b', o' + k * 6 + 2, none⟩) hbq).trans (hcq 2 (by decide))
        have q3 := (hbel1.cell (p := ⟨b', o' + k * 6 + 3, none⟩) hbq).trans (hcq 3 (by decide))
        have q4 := (hbel1.cell (p := ⟨b', o' + k * 6 + 4, none⟩) hbq).trans (hcq 4 (by decide))
        have q5 := (hbel1.cell (p := ⟨b', o' + k * 6 + 5, none⟩) hbq).trans (hcq 5 (by decide))
        have hn : typeS.n = 6 := rfl
        simp only [Nat.add_zero, List.getElem?_cons_zero, List.getElem?_cons_succ] at e0 q0 e1 q1 e2 q2 e3 q3 e4 q4 e5 q5
        have Hbad := Lib.hid (fun h => agree_bad hlt hlt' h)
        have Hnx := Lib.hid (fun h => agree_next hlt hlt' Hto.out h)
        have hft := Hs.out l[k] (List.getElem_mem hlt)
        have i1 : (0 : Int) ≤ (k : Int) := by omega
        have i2 : (k : Int) < (l.length : Int) := by omega
        have hB := (hbel.alloc hbel.size (.cells #[.int .i64 l[k].fKind, .int .i64 l[k].fLong, .int .i64 l[k].fBase, .slice a3 l[k].fFields.length c3, .string l[k].fOwner, .string l[k].fName] 72)).alloc (hbel.alloc hbel.size (.cells #[.int .i64 l[k].fKind, .int .i64 l[k].fLong, .int .i64 l[k].fBase, .slice a3 l[k].fFields.length c3, .string l[k].fOwner, .string l[k].fName] 72)).size (.cells #[.int .i64 m[k].fKind, .int .i64 m[k].fLong, .int .i64 m[k].fBase, .slice b3 m[k].fFields.length d3, .string m[k].fOwner, .string m[k].fName] 72)
        have hcall := iSameType l[k] m[k] a3 b3 c3 d3 ((wr.alloc (.cells #[.int .i64 l[k].fKind, .int .i64 l[k].fLong, .int .i64 l[k].fBase, .slice a3 l[k].fFields.length c3, .string l[k].fOwner, .string l[k].fName] 72)).alloc (.cells #[.int .i64 m[k].fKind, .int .i64 m[k].fLong, .int .i64 m[k].fBase, .slice b3 m[k].fFields.length d3, .string m[k].fOwner, .string m[k].fName] 72)) hft (hfe.below hB) (hfq.below hB)
        have HB := Lib.hid hB
        have Hcall := Lib.hid hcall
        have hsz := hbel.size
        clear hbel hbel1 hB hcall hce hcq hfe hfq hft
        generalize l[k] = t at *
        generalize m[k] = u at *
        clear hlt'
        by_cases he : t = u
        · have Hn := Lib.hid (Hnx.out he)
          have Hq := Lib.hid (eqB_true he)
          clear he
          go_wp2_with fail
          refine Hcall.out.mono ?_
          rw [Hq.out]
          rintro e w2 ⟨rfl, hb2⟩
          have B2 := Lib.hid (HB.out.trans (hb2.mono HB.out.size))
          clear hb2
          go_wp2_with fail
          exact ⟨⟨k + 1, by congr 1, by omega, Hn.out, B2.out⟩, by simp [intOf]; omega⟩
        · have Hv := Lib.hid (Hbad.out he)
          have Hq := Lib.hid (eqB_false he)
          clear he
          go_wp2_with fail
          refine Hcall.out.mono ?_
          rw [Hq.out]
          rintro e w2 ⟨rfl, hb2⟩
          have B2 := Lib.hid (HB.out.trans (hb2.mono HB.out.size))
          clear hb2
          go_wp2_with fail
          go_ret
          exact ⟨by rw [Hv.out]; rfl, B2.out⟩
      · have Hv := Lib.hid (agree_all Hlen.out.symm (show agreeTo l m l.length by rw [← show k = l.length by omega]; exact Hto.out))
        have Hbel := Lib.hid hbel
        clear hbel
        go_wp2_with fail
        go_ret
        exact ⟨by rw [Hv.out]; rfl, Hbel.out⟩
  · have Hv := Lib.hid (agree_len (l := l) (m := m) (fun e => hlen e.symm))
    have h1 : ¬ (l.length : Int) = (m.length : Int) := by omega
    go_enter Tryz.func133, Tryz.ntmps133
    go_wp2_with fail
    go_ret
    exact ⟨by rw [Hv.out]; rfl, Below.refl _ _⟩

set_option maxRecDepth 100000 in
set_option maxHeartbeats 8000000 in
theorem iEqualObjects (a a' : Option Addr) (c c' : Nat) (l m : List ObjectD) (w : World) (hl : l.length ≤ 1048576) (hs : ∀ t ∈ l, t.fParams.length ≤ 1048576) (hr : Rows objectS Any w a l) (hr' : Rows objectS Any w a' m) :
    Calls Tryz.prog 135 #[.slice a l.length c, .slice a' m.length c', .func (.func 136) #[] #[]] w fun e w' => e = .returned (.bool (sameB l m)) ∧ Below w.heap.size w w' := by
  have Hr := Lib.hid hr
  have Hr' := Lib.hid hr'
  have Hs := Lib.hid hs
  clear hr hr' hs
  by_cases hlen : m.length = l.length
  · rw [hlen]
    have Hlen := Lib.hid hlen
    clear hlen
    go_enter Tryz.func135, Tryz.ntmps135
    go_wp2_with fail
    go_loopw [17] (fun i wr => ∃ k : Nat, i = .int .i64 k ∧ k ≤ l.length ∧ agreeTo l m k ∧ Below w.heap.size w wr) (fun i _ => l.length - (intOf i).toNat)
    case atStart => exact ⟨0, rfl, by omega, agree_zero, Below.refl _ _⟩
    case round =>
      obtain ⟨k, rfl, hk, hto, hbel⟩ := hrel
      have Hto := Lib.hid hto
      clear hto
      by_cases hlt : k < l.length
      · have hlt' : k < m.length := by rw [Hlen.out]; exact hlt
        obtain ⟨b, o, cse, rfl, _, hbe, hce, hate⟩ := Hr.out k hlt
        obtain ⟨a3, c3, rfl, hfe, _⟩ := hate
        have e0 := (hbel.cell (p := ⟨b, o + k * 6 + 0, none⟩) hbe).trans (hce 0 (by decide))
        have e1 := (hbel.cell (p := ⟨b, o + k * 6 + 1, none⟩) hbe).trans (hce 1 (by decide))
        have e2 := (hbel.cell (p := ⟨b, o + k * 6 + 2, none⟩) hbe).trans (hce 2 (by decide))
        have e3 := (hbel.cell (p := ⟨b, o + k * 6 + 3, none⟩) hbe).trans (hce 3 (by decide))
        have e4 := (hbel.cell (p := ⟨b, o + k * 6 + 4, none⟩) hbe).trans (hce 4 (by decide))
        have e5 := (hbel.cell (p := ⟨b, o + k * 6 + 5, none⟩) hbe).trans (hce 5 (by decide))
        have hbel1 := hbel.alloc hbel.size (.cells #[.string l[k].fName, .int .i64 l[k].fKind, .int .i64 l[k].fMark, .int .i64 l[k].fType, .int .i64 l[k].fValue, .slice a3 l[k].fParams.length c3] 78)
        obtain ⟨b', o', csq, rfl, _, hbq, hcq, hatq⟩ := Hr'.out k hlt'
        obtain ⟨b3, d3, rfl, hfq, _⟩ := hatq
        have q0 := (hbel1.cell (p := ⟨b', o' + k * 6 + 0, none⟩) hbq).trans (hcq 0 (by decide))
        have q1 := (hbel1.cell (p := ⟨b', o' + k * 6 + 1, none⟩) hbq).trans (hcq 1 (by decide))
        have q2 := (hbel1.cell (p := ⟨b', o' + k * 6 + 2, none⟩) hbq).trans (hcq 2 (by decide))
        have q3 := (hbel1.cell (p := ⟨b', o' + k * 6 + 3, none⟩) hbq).trans (hcq 3 (by decide))
        have q4 := (hbel1.cell (p := ⟨b', o' + k * 6 + 4, none⟩) hbq).trans (hcq 4 (by decide))
        have q5 := (hbel1.cell (p := ⟨b', o' + k * 6 + 5, none⟩) hbq).trans (hcq 5 (by decide))
        have hn : objectS.n = 6 := rfl
        simp only [Nat.add_zero, List.getElem?_cons_zero, List.getElem?_cons_succ] at e0 q0 e1 q1 e2 q2 e3 q3 e4 q4 e5 q5
        have Hbad := Lib.hid (fun h => agree_bad hlt hlt' h)
        have Hnx := Lib.hid (fun h => agree_next hlt hlt' Hto.out h)
        have hft := Hs.out l[k] (List.getElem_mem hlt)
        have i1 : (0 : Int) ≤ (k : Int) := by omega
        have i2 : (k : Int) < (l.length : Int) := by omega
        have hB := (hbel.alloc hbel.size (.cells #[.string l[k].fName, .int .i64 l[k].fKind, .int .i64 l[k].fMark, .int .i64 l[k].fType, .int .i64 l[k].fValue, .slice a3 l[k].fParams.length c3] 78)).alloc (hbel.alloc hbel.size (.cells #[.string l[k].fName, .int .i64 l[k].fKind, .int .i64 l[k].fMark, .int .i64 l[k].fType, .int .i64 l[k].fValue, .slice a3 l[k].fParams.length c3] 78)).size (.cells #[.string m[k].fName, .int .i64 m[k].fKind, .int .i64 m[k].fMark, .int .i64 m[k].fType, .int .i64 m[k].fValue, .slice b3 m[k].fParams.length d3] 78)
        have hcall := iSameObject l[k] m[k] a3 b3 c3 d3 ((wr.alloc (.cells #[.string l[k].fName, .int .i64 l[k].fKind, .int .i64 l[k].fMark, .int .i64 l[k].fType, .int .i64 l[k].fValue, .slice a3 l[k].fParams.length c3] 78)).alloc (.cells #[.string m[k].fName, .int .i64 m[k].fKind, .int .i64 m[k].fMark, .int .i64 m[k].fType, .int .i64 m[k].fValue, .slice b3 m[k].fParams.length d3] 78)) hft (hfe.below hB) (hfq.below hB)
        have HB := Lib.hid hB
        have Hcall := Lib.hid hcall
        have hsz := hbel.size
        clear hbel hbel1 hB hcall hce hcq hfe hfq hft
        generalize l[k] = t at *
        generalize m[k] = u at *
        clear hlt'
        by_cases he : t = u
        · have Hn := Lib.hid (Hnx.out he)
          have Hq := Lib.hid (eqB_true he)
          clear he
          go_wp2_with fail
          refine Hcall.out.mono ?_
          rw [Hq.out]
          rintro e w2 ⟨rfl, hb2⟩
          have B2 := Lib.hid (HB.out.trans (hb2.mono HB.out.size))
          clear hb2
          go_wp2_with fail
          exact ⟨⟨k + 1, by congr 1, by omega, Hn.out, B2.out⟩, by simp [intOf]; omega⟩
        · have Hv := Lib.hid (Hbad.out he)
          have Hq := Lib.hid (eqB_false he)
          clear he
          go_wp2_with fail
          refine Hcall.out.mono ?_
          rw [Hq.out]
          rintro e w2 ⟨rfl, hb2⟩
          have B2 := Lib.hid (HB.out.trans (hb2.mono HB.out.size))
          clear hb2
          go_wp2_with fail
          go_ret
          exact ⟨by rw [Hv.out]; rfl, B2.out⟩
      · have Hv := Lib.hid (agree_all Hlen.out.symm (show agreeTo l m l.length by rw [← show k = l.length by omega]; exact Hto.out))
        have Hbel := Lib.hid hbel
        clear hbel
        go_wp2_with fail
        go_ret
        exact ⟨by rw [Hv.out]; rfl, Hbel.out⟩
  · have Hv := Lib.hid (agree_len (l := l) (m := m) (fun e => hlen e.symm))
    have h1 : ¬ (l.length : Int) = (m.length : Int) := by omega
    go_enter Tryz.func135, Tryz.ntmps135
    go_wp2_with fail
    go_ret
    exact ⟨by rw [Hv.out]; rfl, Below.refl _ _⟩
end Go.Proofs.YtaccifjkeblhpaaGreat

namespace Go.Proofs.YtaccifjkeblhpaaGreat
open Go.ChangeShapes Go.WideShapes Go.ChangeAt Go.RowKit

theorem eqB_of {T : Type} {t u : T} (h : eqB t u = true) : t = u := by unfold eqB at h; simpa using h
theorem eqB_no {T : Type} {t u : T} (h : eqB t u = false) : ¬ t = u := by unfold eqB at h; simpa using h
theorem scope_eq {A B : ScopeD} (h0 : A.fName = B.fName) (h1 : A.fImports = B.fImports) (h2 : A.fTypes = B.fTypes) (h3 : A.fObjects = B.fObjects) (h4 : A.fUses = B.fUses) : A = B := by
  obtain ⟨n, i, t, o, u⟩ := A
  obtain ⟨n', i', t', o', u'⟩ := B
  simp only at *
  subst h0 h1 h2 h3 h4
  rfl

set_option maxRecDepth 100000 in
set_option maxHeartbeats 16000000 in
theorem iSameScope (A B : ScopeD) (a1 a2 a3 a4 b1 b2 b3 b4 : Option Addr) (c1 c2 c3 c4 d1 d2 d3 d4 : Nat) (w : World) (K : ScopeK A) (hr : ScopeR Any w a1 a2 a3 a4 A) (hr' : ScopeR Any w b1 b2 b3 b4 B) :
    Calls Tryz.prog 95 #[.agg (scopeC A a1 a2 a3 a4 c1 c2 c3 c4), .agg (scopeC B b1 b2 b3 b4 d1 d2 d3 d4)] w fun e w' => e = .returned (.bool (eqB A B)) ∧ Below w.heap.size w w' := by
  have B0 := Lib.hid (((Below.refl w.heap.size w).alloc (Nat.le_refl _) (.cells (scopeC A a1 a2 a3 a4 c1 c2 c3 c4) 33)).alloc (by simp) (.cells (scopeC B b1 b2 b3 b4 d1 d2 d3 d4) 33))
  have R0 := Lib.hid (hr.below B0.out)
  have S0 := Lib.hid (hr'.below B0.out)
  have X0 := Lib.hid ((Box.new w 33 (scopeC A a1 a2 a3 a4 c1 c2 c3 c4)).alloc (.cells (scopeC B b1 b2 b3 b4 d1 d2 d3 d4) 33))
  have Y0 := Lib.hid (Box.new' (w.alloc (.cells (scopeC A a1 a2 a3 a4 c1 c2 c3 c4) 33)) 33 (scopeC B b1 b2 b3 b4 d1 d2 d3 d4) (g := w.heap.size + 1) (by simp))
  have KK := Lib.hid K
  have hli := K.li
  have hlty := K.lt
  have hlo := K.lo
  have hlu := K.lu
  clear hr hr' K
  by_cases p0 : A.fName = B.fName
  case neg =>
    have Hv := Lib.hid (eqB_false (fun (e : A = B) => p0 (by rw [e])))
    have hb := bytes_same A.fName B.fName false (by simp [p0])
    clear p0
    go_enter Tryz.func95, Tryz.ntmps95
    go_wp2_with fail
    go_ret
    exact ⟨by rw [Hv.out]; rfl, B0.out⟩
  have hb := bytes_same A.fName B.fName true (by simp [p0])
  have P0 := Lib.hid p0
  clear p0
  go_enter Tryz.func95, Tryz.ntmps95
  go_wp2_with fail
  clear hb
  refine (iEqualStr a1 b1 c1 d1 A.fImports B.fImports _ hli R0.out.imports S0.out.imports).mono ?_
  rintro e w1 ⟨rfl, hb1⟩
  have B1 := Lib.hid (B0.out.trans (hb1.mono B0.out.size))
  have X1 := Lib.hid (X0.out.below hb1 X0.out.lt)
  have Y1 := Lib.hid (Y0.out.below hb1 Y0.out.lt)
  have R1 := Lib.hid (R0.out.below hb1)
  have S1 := Lib.hid (S0.out.below hb1)
  clear hb1
  by_cases p1 : A.fImports = B.fImports
  case neg =>
    have Hv := Lib.hid (eqB_false (fun (e : A = B) => p1 (by rw [e])))
    rw [sameB_false p1]
    clear p1
    go_wp2_with fail
    go_ret
    exact ⟨by rw [Hv.out]; rfl, B1.out⟩
  rw [sameB_true p1]
  have P1 := Lib.hid p1
  clear p1
  obtain ⟨x0, x1, x2, x3, x4⟩ := box5 X1.out
  obtain ⟨y0, y1, y2, y3, y4⟩ := box5 Y1.out
  go_wp2_with fail
  clear x0 x1 x2 x3 x4 y0 y1 y2 y3 y4
  refine (iEqualTypes a2 b2 c2 d2 A.fTypes B.fTypes _ KK.out.lt (fun t ht => (KK.out.mt t ht).2.2.1) R1.out.types S1.out.types).mono ?_
  rintro e w2 ⟨rfl, hb2⟩
  have B2 := Lib.hid (B1.out.trans (hb2.mono B1.out.size))
  have X2 := Lib.hid (X1.out.below hb2 X1.out.lt)
  have Y2 := Lib.hid (Y1.out.below hb2 Y1.out.lt)
  have R2 := Lib.hid (R1.out.below hb2)
  have S2 := Lib.hid (S1.out.below hb2)
  clear hb2
  by_cases p2 : A.fTypes = B.fTypes
  case neg =>
    have Hv := Lib.hid (eqB_false (fun (e : A = B) => p2 (by rw [e])))
    rw [sameB_false p2]
    clear p2
    go_wp2_with fail
    go_ret
    exact ⟨by rw [Hv.out]; rfl, B2.out⟩
  rw [sameB_true p2]
  have P2 := Lib.hid p2
  clear p2
  obtain ⟨x0, x1, x2, x3, x4⟩ := box5 X2.out
  obtain ⟨y0, y1, y2, y3, y4⟩ := box5 Y2.out
  go_wp2_with fail
  clear x0 x1 x2 x3 x4 y0 y1 y2 y3 y4
  refine (iEqualObjects a3 b3 c3 d3 A.fObjects B.fObjects _ KK.out.lo (fun o ho => (KK.out.mo o ho).2.1) R2.out.objects S2.out.objects).mono ?_
  rintro e w3 ⟨rfl, hb3⟩
  have B3 := Lib.hid (B2.out.trans (hb3.mono B2.out.size))
  have X3 := Lib.hid (X2.out.below hb3 X2.out.lt)
  have Y3 := Lib.hid (Y2.out.below hb3 Y2.out.lt)
  have R3 := Lib.hid (R2.out.below hb3)
  have S3 := Lib.hid (S2.out.below hb3)
  clear hb3
  by_cases p3 : A.fObjects = B.fObjects
  case neg =>
    have Hv := Lib.hid (eqB_false (fun (e : A = B) => p3 (by rw [e])))
    rw [sameB_false p3]
    clear p3
    go_wp2_with fail
    go_ret
    exact ⟨by rw [Hv.out]; rfl, B3.out⟩
  rw [sameB_true p3]
  have P3 := Lib.hid p3
  clear p3
  obtain ⟨x0, x1, x2, x3, x4⟩ := box5 X3.out
  obtain ⟨y0, y1, y2, y3, y4⟩ := box5 Y3.out
  go_wp2_with fail
  clear x0 x1 x2 x3 x4 y0 y1 y2 y3 y4
  refine (iEqualUse a4 b4 c4 d4 A.fUses B.fUses _ KK.out.lu R3.out.uses S3.out.uses).mono ?_
  rintro e w4 ⟨rfl, hb4⟩
  have B4 := Lib.hid (B3.out.trans (hb4.mono B3.out.size))
  clear hb4
  have Hv := Lib.hid (show eqB A B = sameB A.fUses B.fUses by
    by_cases h : A.fUses = B.fUses
    · rw [sameB_true h, eqB_true (scope_eq P0.out P1.out P2.out P3.out h)]
    · rw [sameB_false h, eqB_false (fun e => h (by rw [e]))])
  go_wp2_with fail
  go_ret
  exact ⟨by rw [Hv.out]; rfl, B4.out⟩
end Go.Proofs.YtaccifjkeblhpaaGreat
