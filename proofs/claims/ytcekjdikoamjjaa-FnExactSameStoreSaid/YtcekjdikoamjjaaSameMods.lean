
/-
  What is proved: contracts of slices.Equal on what was seen, of the program's sameModule, of slices.EqualFunc on modules, of both SameStore. No condition beside what each theorem states.
-/
import Derived.Test.YtcekjdikoamjjaaStModules
import Derived.Test.YtcekjdikoamjjaaSSameScope
import Derived.Deep.RegionHeld3
namespace Go.Proofs.Ytcekjdikoamjjaa
open Go.ChangeShapes Go.WideShapes Go.ChangeAt Go.RowKit

theorem eqSSI {P : Program} {t s i : TypeId} {f0 f1 f2 : Field} (hk : P.underlying t = some (.struct #[f0, f1, f2])) (hp : P.stoodInHeld t = false)
    (n0 : (f0.name != "_") = true) (n1 : (f1.name != "_") = true) (n2 : (f2.name != "_") = true) (t0 : f0.type = s) (t1 : f1.type = s) (t2 : f2.type = i) (o0 : f0.offset = 0) (o1 : f1.offset = 1) (o2 : f2.offset = 2) (hs : P.underlying s = some .string) (hi : P.underlying i = some (.int .i64))
    (a b a' b' : ByteArray) (y y' : Int) (W : World) : (Op.equalIn 10000 t (.agg #[.string a, .string b, .int .i64 y]) (.agg #[.string a', .string b', .int .i64 y'])).run P W = .ok ((a.toList == a'.toList) && ((b.toList == b'.toList) && (y == y'))) W := by
  have hf : P.fieldsOf t = #[f0, f1, f2] := by unfold Program.fieldsOf; rw [hk]
  have ps := part_cell (P := P) (s := s) (by rw [hs])
  have pi := part_cell (P := P) (s := i) (by rw [hi])
  rw [bne_iff_ne] at n0 n1 n2
  rw [show (10000 : Nat) = 9998 + 1 + 1 from rfl, run_equalIn_struct W (9998 + 1) t _ _ (by rw [hf]; exact hk) hp, hf]
  simp only [Op.eqFields, n0, n1, n2, ne_eq, not_false_eq_true, if_true, t0, t1, t2, o0, o1, o2]
  cases h0 : (a.toList == a'.toList) <;> cases h1 : (b.toList == b'.toList) <;> cases h2 : (y == y') <;>
    simp [Sem.run_bind, ps, pi, run_equalIn_string _ 9998 s _ _ hs, run_equalIn_int _ 9998 i _ _ _ _ hi, Result.andThen, h0, h1, h2]
theorem eqSeen (a b : ByteArray) (y : Int) (a' b' : ByteArray) (y' : Int) (W : World) : (Op.equalIn 10000 48 (.agg #[.string a, .string b, .int .i64 y]) (.agg #[.string a', .string b', .int .i64 y'])).run Try.prog W = .ok ((a.toList == a'.toList) && ((b.toList == b'.toList) && (y == y'))) W :=
  eqSSI Try.underlying48 (by kernel_rfl) (by decide) (by decide) (by decide) rfl rfl rfl rfl rfl rfl Try.underlying9 Try.underlying3 a b a' b' y y' W
theorem seen_bool {u v : SeenD} : ((u.fMod.toList == v.fMod.toList) && ((u.fName.toList == v.fName.toList) && (u.fSum == v.fSum))) = true ↔ u = v := by
  obtain ⟨a, b, c⟩ := u
  obtain ⟨a', b', c'⟩ := v
  simp [bytes_iff]

set_option maxRecDepth 100000 in
set_option maxHeartbeats 4000000 in
theorem iEqualSeen (a a' : Option Addr) (c c' : Nat) (l m : List SeenD) (w : World) (hl : l.length ≤ 1048576) (hr : Rows seenS Any w a l) (hr' : Rows seenS Any w a' m) :
    Calls Try.prog 23 #[.slice a l.length c, .slice a' m.length c'] w fun e w' => e = .returned (.bool (sameB l m)) ∧ Below w.heap.size w w' := by
  have Hr := Lib.hid hr
  have Hr' := Lib.hid hr'
  clear hr hr'
  by_cases hlen : m.length = l.length
  · rw [hlen]
    have Hlen := Lib.hid hlen
    clear hlen
    go_enter Try.func23, Try.ntmps23
    go_wp2_with fail
    go_loopw [13] (fun i wr => ∃ k : Nat, i = .int .i64 k ∧ k ≤ l.length ∧ agreeTo l m k ∧ Below w.heap.size w wr) (fun i _ => l.length - (intOf i).toNat)
    case atStart => exact ⟨0, rfl, by omega, agree_zero, Below.refl _ _⟩
    case round =>
      obtain ⟨k, rfl, hk, hto, hbel⟩ := hrel
      have Hto := Lib.hid hto
      clear hto
      by_cases hlt : k < l.length
      · have hlt' : k < m.length := by rw [Hlen.out]; exact hlt
        obtain ⟨b, o, cs, rfl, _, hb1, hc1, hat⟩ := Hr.out k hlt
        obtain ⟨b', o', cs', rfl, _, hb1', hc1', hat'⟩ := Hr'.out k hlt'
        obtain rfl : cs = [.string l[k].fMod, .string l[k].fName, .int .i64 l[k].fSum] := hat
        obtain rfl : cs' = [.string m[k].fMod, .string m[k].fName, .int .i64 m[k].fSum] := hat'
        have hn : seenS.n = 3 := rfl
        have e0 := (hbel.cell (p := ⟨b, o + k * 3 + 0, none⟩) hb1).trans (hc1 0 (by decide))
        have q0 := (hbel.cell (p := ⟨b', o' + k * 3 + 0, none⟩) hb1').trans (hc1' 0 (by decide))
        have e1 := (hbel.cell (p := ⟨b, o + k * 3 + 1, none⟩) hb1).trans (hc1 1 (by decide))
        have q1 := (hbel.cell (p := ⟨b', o' + k * 3 + 1, none⟩) hb1').trans (hc1' 1 (by decide))
        have e2 := (hbel.cell (p := ⟨b, o + k * 3 + 2, none⟩) hb1).trans (hc1 2 (by decide))
        have q2 := (hbel.cell (p := ⟨b', o' + k * 3 + 2, none⟩) hb1').trans (hc1' 2 (by decide))
        simp at e0 q0 e1 q1 e2 q2
        clear hc1 hc1'
        have Hbad := Lib.hid (fun h => agree_bad hlt hlt' h)
        have Hnx := Lib.hid (fun h => agree_next hlt hlt' Hto.out h)
        have i1 : (0 : Int) ≤ (k : Int) := by omega
        have i2 : (k : Int) < (l.length : Int) := by omega
        have Hbel := Lib.hid hbel
        clear hbel
        generalize l[k] = t at *
        generalize m[k] = u at *
        clear hlt'
        have heq := eqSeen t.fMod t.fName t.fSum u.fMod u.fName u.fSum
        by_cases he : t = u
        · rw [seen_bool.2 he] at heq
          have Hn := Lib.hid (Hnx.out he)
          clear he
          go_wp2_with fail
          go_quiet (fail)
          go_wp2_with fail
          exact ⟨⟨k + 1, by congr 1, by omega, Hn.out, belowN Hbel.out _⟩, by simp [intOf]; omega⟩
        · rw [Bool.eq_false_iff.2 (fun h => he (seen_bool.1 h))] at heq
          have Hv := Lib.hid (Hbad.out he)
          clear he
          go_wp2_with fail
          go_quiet (fail)
          go_wp2_with fail
          go_ret
          exact ⟨by rw [Hv.out]; rfl, belowN Hbel.out _⟩
      · have Hv := Lib.hid (agree_all Hlen.out.symm (show agreeTo l m l.length by rw [← show k = l.length by omega]; exact Hto.out))
        have Hbel := Lib.hid hbel
        clear hbel
        go_wp2_with fail
        go_ret
        exact ⟨by rw [Hv.out]; rfl, Hbel.out⟩
  · have Hv := Lib.hid (agree_len (l := l) (m := m) (fun e => hlen e.symm))
    have h1 : ¬ (l.length : Int) = (m.length : Int) := by omega
    go_enter Try.func23, Try.ntmps23
    go_wp2_with fail
    go_ret
    exact ⟨by rw [Hv.out]; rfl, Below.refl _ _⟩

theorem module_eq {A B : ModuleD} (h0 : A.fScope = B.fScope) (h1 : A.fSeen = B.fSeen) : A = B := by
  obtain ⟨s, e⟩ := A
  obtain ⟨s', e'⟩ := B
  simp only at *
  subst h0 h1
  rfl
/-- What a module may be. -/
def modK (t : ModuleD) : Prop := ScopeK t.fScope ∧ t.fSeen.length ≤ 1048576
theorem modK_of {t : ModuleD} (h : t.wt ≤ 1048576) : modK t := ⟨ScopeK.of (Nat.le_trans (ModuleD.wtS t) h), Nat.le_trans (ModuleD.wtN t) h⟩

set_option maxRecDepth 100000 in
set_option maxHeartbeats 8000000 in
theorem iSameModule (A B : ModuleD) (a1 a2 a3 a4 a5 b1 b2 b3 b4 b5 : Option Addr) (c1 c2 c3 c4 c5 d1 d2 d3 d4 d5 : Nat) (w : World) (K : modK A) (hr : ModuleR Any w a1 a2 a3 a4 a5 A) (hr' : ModuleR Any w b1 b2 b3 b4 b5 B) :
    Calls Try.prog 13 #[.agg (moduleC A a1 a2 a3 a4 a5 c1 c2 c3 c4 c5), .agg (moduleC B b1 b2 b3 b4 b5 d1 d2 d3 d4 d5)] w fun e w' => e = .returned (.bool (eqB A B)) ∧ Below w.heap.size w w' := by
  have B0 := Lib.hid (((Below.refl w.heap.size w).alloc (Nat.le_refl _) (.cells (moduleC A a1 a2 a3 a4 a5 c1 c2 c3 c4 c5) 45)).alloc (by simp) (.cells (moduleC B b1 b2 b3 b4 b5 d1 d2 d3 d4 d5) 45))
  have X0 := Lib.hid ((Box.new w 45 (moduleC A a1 a2 a3 a4 a5 c1 c2 c3 c4 c5)).alloc (.cells (moduleC B b1 b2 b3 b4 b5 d1 d2 d3 d4 d5) 45))
  have Y0 := Lib.hid (Box.new' (w.alloc (.cells (moduleC A a1 a2 a3 a4 a5 c1 c2 c3 c4 c5) 45)) 45 (moduleC B b1 b2 b3 b4 b5 d1 d2 d3 d4 d5) (g := w.heap.size + 1) (by simp))
  have R0 := Lib.hid (hr.below B0.out)
  have S0 := Lib.hid (hr'.below B0.out)
  have KS := Lib.hid K.1
  have hse := K.2
  clear hr hr' K
  go_enter Try.func13, Try.ntmps13
  go_wp2_with fail
  refine (iSameScope A.fScope B.fScope a1 a2 a3 a4 b1 b2 b3 b4 c1 c2 c3 c4 d1 d2 d3 d4 _ KS.out R0.out.scope S0.out.scope).mono ?_
  rintro e w1 ⟨rfl, hb1⟩
  have B1 := Lib.hid (B0.out.trans (hb1.mono B0.out.size))
  have X1 := Lib.hid (X0.out.below hb1 X0.out.lt)
  have Y1 := Lib.hid (Y0.out.below hb1 Y0.out.lt)
  have R1 := Lib.hid (R0.out.below hb1)
  have S1 := Lib.hid (S0.out.below hb1)
  clear hb1
  by_cases p0 : A.fScope = B.fScope
  case neg =>
    have Hv := Lib.hid (eqB_false (fun (e : A = B) => p0 (by rw [e])))
    have Hq := Lib.hid (eqB_false p0)
    clear p0
    rw [Hq.out]
    go_wp2_with fail
    go_ret
    exact ⟨by rw [Hv.out]; rfl, B1.out⟩
  have P0 := Lib.hid p0
  have Hq := Lib.hid (eqB_true p0)
  clear p0
  rw [Hq.out]
  have ca := X1.out.cell 5
  have cd := Y1.out.cell 5
  simp at ca cd
  go_wp2_with fail
  clear ca cd
  refine (iEqualSeen a5 b5 c5 d5 A.fSeen B.fSeen _ hse R1.out.seen S1.out.seen).mono ?_
  rintro e w2 ⟨rfl, hb2⟩
  have B2 := Lib.hid (B1.out.trans (hb2.mono B1.out.size))
  clear hb2
  have Hv := Lib.hid (show eqB A B = sameB A.fSeen B.fSeen by
    by_cases h : A.fSeen = B.fSeen
    · rw [sameB_true h, eqB_true (module_eq P0.out h)]
    · rw [sameB_false h, eqB_false (fun e => h (by rw [e]))])
  go_wp2_with fail
  go_ret
  exact ⟨by rw [Hv.out]; rfl, B2.out⟩

set_option maxRecDepth 100000 in
set_option maxHeartbeats 8000000 in
theorem iEqualModules (a a' : Option Addr) (c c' : Nat) (l m : List ModuleD) (w : World) (hl : l.length ≤ 1048576) (hs : ∀ t ∈ l, modK t) (hr : Rows moduleS Any w a l) (hr' : Rows moduleS Any w a' m) :
    Calls Try.prog 12 #[.slice a l.length c, .slice a' m.length c', .func (.func 13) #[] #[]] w fun e w' => e = .returned (.bool (sameB l m)) ∧ Below w.heap.size w w' := by
  have Hr := Lib.hid hr
  have Hr' := Lib.hid hr'
  have Hs := Lib.hid hs
  clear hr hr' hs
  by_cases hlen : m.length = l.length
  · rw [hlen]
    have Hlen := Lib.hid hlen
    clear hlen
    go_enter Try.func12, Try.ntmps12
    go_wp2_with fail
    go_loopw [17] (fun i wr => ∃ k : Nat, i = .int .i64 k ∧ k ≤ l.length ∧ agreeTo l m k ∧ Below w.heap.size w wr) (fun i _ => l.length - (intOf i).toNat)
    case atStart => exact ⟨0, rfl, by omega, agree_zero, Below.refl _ _⟩
    case round =>
      obtain ⟨k, rfl, hk, hto, hbel⟩ := hrel
      have Hto := Lib.hid hto
      clear hto
      by_cases hlt : k < l.length
      · have hlt' : k < m.length := by rw [Hlen.out]; exact hlt
        obtain ⟨b, o, cse, rfl, _, hbe, hce, hate⟩ := Hr.out k hlt
        obtain ⟨a1, a2, a3, a4, a5, c1, c2, c3, c4, c5, rfl, hfe⟩ := hate
        have e0 := (hbel.cell (p := ⟨b, o + k * 6 + 0, none⟩) hbe).trans (hce 0 (by decide))
        have e1 := (hbel.cell (p := ⟨b, o + k * 6 + 1, none⟩) hbe).trans (hce 1 (by decide))
        have e2 := (hbel.cell (p := ⟨b, o + k * 6 + 2, none⟩) hbe).trans (hce 2 (by decide))
        have e3 := (hbel.cell (p := ⟨b, o + k * 6 + 3, none⟩) hbe).trans (hce 3 (by decide))
        have e4 := (hbel.cell (p := ⟨b, o + k * 6 + 4, none⟩) hbe).trans (hce 4 (by decide))
        have e5 := (hbel.cell (p := ⟨b, o + k * 6 + 5, none⟩) hbe).trans (hce 5 (by decide))
        have hbel1 := hbel.alloc hbel.size (.cells #[.string l[k].fScope.fName, .slice a1 l[k].fScope.fImports.length c1, .slice a2 l[k].fScope.fTypes.length c2, .slice a3 l[k].fScope.fObjects.length c3, .slice a4 l[k].fScope.fUses.length c4, .slice a5 l[k].fSeen.length c5] 45)
        obtain ⟨b', o', csq, rfl, _, hbq, hcq, hatq⟩ := Hr'.out k hlt'
        obtain ⟨b1, b2, b3, b4, b5, d1, d2, d3, d4, d5, rfl, hfq⟩ := hatq
        have q0 := (hbel1.cell (p := ⟨b', o' + k * 6 + 0, none⟩) hbq).trans (hcq 0 (by decide))
        have q1 := (hbel1.cell (p := ⟨b', o' + k * 6 + 1, none⟩) hbq).trans (hcq 1 (by decide))
        have q2 := (hbel1.cell (p := ⟨b', o' + k * 6 + 2, none⟩) hbq).trans (hcq 2 (by decide))
        have q3 := (hbel1.cell (p := ⟨b', o' + k * 6 + 3, none⟩) hbq).trans (hcq 3 (by decide))
        have q4 := (hbel1.cell (p := ⟨b', o' + k * 6 + 4, none⟩) hbq).trans (hcq 4 (by decide))
        have q5 := (hbel1.cell (p := ⟨b', o' + k * 6 + 5, none⟩) hbq).trans (hcq 5 (by decide))
        have hn : moduleS.n = 6 := rfl
        simp only [Nat.add_zero, List.getElem?_cons_zero, List.getElem?_cons_succ] at e0 q0 e1 q1 e2 q2 e3 q3 e4 q4 e5 q5
        have Hbad := Lib.hid (fun h => agree_bad hlt hlt' h)
        have Hnx := Lib.hid (fun h => agree_next hlt hlt' Hto.out h)
        have hft := Hs.out l[k] (List.getElem_mem hlt)
        have i1 : (0 : Int) ≤ (k : Int) := by omega
        have i2 : (k : Int) < (l.length : Int) := by omega
        have hB := (hbel.alloc hbel.size (.cells #[.string l[k].fScope.fName, .slice a1 l[k].fScope.fImports.length c1, .slice a2 l[k].fScope.fTypes.length c2, .slice a3 l[k].fScope.fObjects.length c3, .slice a4 l[k].fScope.fUses.length c4, .slice a5 l[k].fSeen.length c5] 45)).alloc (hbel.alloc hbel.size (.cells #[.string l[k].fScope.fName, .slice a1 l[k].fScope.fImports.length c1, .slice a2 l[k].fScope.fTypes.length c2, .slice a3 l[k].fScope.fObjects.length c3, .slice a4 l[k].fScope.fUses.length c4, .slice a5 l[k].fSeen.length c5] 45)).size (.cells #[.string m[k].fScope.fName, .slice b1 m[k].fScope.fImports.length d1, .slice b2 m[k].fScope.fTypes.length d2, .slice b3 m[k].fScope.fObjects.length d3, .slice b4 m[k].fScope.fUses.length d4, .slice b5 m[k].fSeen.length d5] 45)
        have hcall := iSameModule l[k] m[k] a1 a2 a3 a4 a5 b1 b2 b3 b4 b5 c1 c2 c3 c4 c5 d1 d2 d3 d4 d5 ((wr.alloc (.cells #[.string l[k].fScope.fName, .slice a1 l[k].fScope.fImports.length c1, .slice a2 l[k].fScope.fTypes.length c2, .slice a3 l[k].fScope.fObjects.length c3, .slice a4 l[k].fScope.fUses.length c4, .slice a5 l[k].fSeen.length c5] 45)).alloc (.cells #[.string m[k].fScope.fName, .slice b1 m[k].fScope.fImports.length d1, .slice b2 m[k].fScope.fTypes.length d2, .slice b3 m[k].fScope.fObjects.length d3, .slice b4 m[k].fScope.fUses.length d4, .slice b5 m[k].fSeen.length d5] 45)) hft (hfe.below hB) (hfq.below hB)
        have HB := Lib.hid hB
        have Hcall := Lib.hid hcall
        have hsz := hbel.size
        clear hbel hbel1 hB hcall hce hcq hfe hfq hft
        generalize l[k] = t at *
        generalize m[k] = u at *
        clear hlt'
        by_cases he : t = u
        · have Hn := Lib.hid (Hnx.out he)
          have Hq := Lib.hid (eqB_true he)
          clear he
          go_wp2_with fail
          refine Hcall.out.mono ?_
          rw [Hq.out]
          rintro e w2 ⟨rfl, hb2⟩
          have B2 := Lib.hid (HB.out.trans (hb2.mono HB.out.size))
          clear hb2
          go_wp2_with fail
          exact ⟨⟨k + 1, by congr 1, by omega, Hn.out, B2.out⟩, by simp [intOf]; omega⟩
        · have Hv := Lib.hid (Hbad.out he)
          have Hq := Lib.hid (eqB_false he)
          clear he
          go_wp2_with fail
          refine Hcall.out.mono ?_
          rw [Hq.out]
          rintro e w2 ⟨rfl, hb2⟩
          have B2 := Lib.hid (HB.out.trans (hb2.mono HB.out.size))
          clear hb2
          go_wp2_with fail
          go_ret
          exact ⟨by rw [Hv.out]; rfl, B2.out⟩
      · have Hv := Lib.hid (agree_all Hlen.out.symm (show agreeTo l m l.length by rw [← show k = l.length by omega]; exact Hto.out))
        have Hbel := Lib.hid hbel
        clear hbel
        go_wp2_with fail
        go_ret
        exact ⟨by rw [Hv.out]; rfl, Hbel.out⟩
  · have Hv := Lib.hid (agree_len (l := l) (m := m) (fun e => hlen e.symm))
    have h1 : ¬ (l.length : Int) = (m.length : Int) := by omega
    go_enter Try.func12, Try.ntmps12
    go_wp2_with fail
    go_ret
    exact ⟨by rw [Hv.out]; rfl, Below.refl _ _⟩

set_option maxRecDepth 100000 in
set_option maxHeartbeats 8000000 in
theorem iSameStore (a a' : Option Addr) (c c' : Nat) (l m : List ModuleD) (w : World) (hl : l.length ≤ 1048576) (hs : ∀ t ∈ l, modK t) (hr : Rows moduleS Any w a l) (hr' : Rows moduleS Any w a' m) :
    Calls Try.prog 7 #[.slice a l.length c, .slice a' m.length c'] w fun e w' => e = .returned (.bool (sameB l m)) ∧ Below w.heap.size w w' := by
  have Hq := Lib.hid (iEqualModules a a' c c' l m w hl hs hr hr')
  clear hr hr' hs
  go_enter Try.func7, Try.ntmps7
  go_wp2_with fail
  refine Hq.out.mono ?_
  rintro e w2 ⟨rfl, hb2⟩
  have B2 := Lib.hid hb2
  clear hb2
  go_wp2_with fail
  go_ret
  exact ⟨rfl, B2.out⟩

/-- The cells of a module of a row, in any world that keeps them. -/
def modCells (w : World) (b o : Nat) (t : ModuleD) (a1 a2 a3 a4 a5 : Option Addr) (c1 c2 c3 c4 c5 : Nat) : Prop :=
  w.cell? ⟨b, o, none⟩ = some (.string t.fScope.fName) ∧ w.cell? ⟨b, o + 1, none⟩ = some (.slice a1 t.fScope.fImports.length c1) ∧ w.cell? ⟨b, o + 2, none⟩ = some (.slice a2 t.fScope.fTypes.length c2) ∧ w.cell? ⟨b, o + 3, none⟩ = some (.slice a3 t.fScope.fObjects.length c3) ∧ w.cell? ⟨b, o + 4, none⟩ = some (.slice a4 t.fScope.fUses.length c4) ∧ w.cell? ⟨b, o + 5, none⟩ = some (.slice a5 t.fSeen.length c5)
theorem modCells.below {w w' : World} {b o : Nat} {t : ModuleD} {a1 a2 a3 a4 a5 : Option Addr} {c1 c2 c3 c4 c5 : Nat} (h : modCells w b o t a1 a2 a3 a4 a5 c1 c2 c3 c4 c5) (hb : Below w.heap.size w w') : modCells w' b o t a1 a2 a3 a4 a5 c1 c2 c3 c4 c5 := by
  obtain ⟨h0, h1, h2, h3, h4, h5⟩ := h
  have k : ∀ {p : Addr} {v : Value}, w.cell? p = some v → w'.cell? p = some v := fun e => (hb.cell (World.block_lt_of_cell? _ _ e)).trans e
  exact ⟨k h0, k h1, k h2, k h3, k h4, k h5⟩
theorem modCells.drew {w : World} {b o : Nat} {t : ModuleD} {a1 a2 a3 a4 a5 : Option Addr} {c1 c2 c3 c4 c5 : Nat} (h : modCells w b o t a1 a2 a3 a4 a5 c1 c2 c3 c4 c5) : modCells w.drew b o t a1 a2 a3 a4 a5 c1 c2 c3 c4 c5 := h
theorem modCells.of {w : World} {b : Nat} {y : TypeId} {t : ModuleD} {a1 a2 a3 a4 a5 : Option Addr} {c1 c2 c3 c4 c5 : Nat} (h : Box w b y (moduleC t a1 a2 a3 a4 a5 c1 c2 c3 c4 c5)) : modCells w b 0 t a1 a2 a3 a4 a5 c1 c2 c3 c4 c5 := ⟨h.cell 0, h.cell 1, h.cell 2, h.cell 3, h.cell 4, h.cell 5⟩
theorem moduleS_at {Q : Nat → Prop} {w w' : World} {a : Option Addr} {l : List ModuleD} {k : Nat} (hr : Rows moduleS Q w a l) (hk : k < l.length) (hb : Below w.heap.size w w') :
    ∃ b o a1 a2 a3 a4 a5 c1 c2 c3 c4 c5, a = some ⟨b, o, none⟩ ∧ b < w.heap.size ∧ modCells w' b (o + k * 6) l[k] a1 a2 a3 a4 a5 c1 c2 c3 c4 c5 ∧ ModuleR Any w' a1 a2 a3 a4 a5 l[k] := by
  obtain ⟨b, o, cs, rfl, _, hb1, hc1, hat⟩ := hr k hk
  obtain ⟨a1, a2, a3, a4, a5, c1, c2, c3, c4, c5, rfl, hs⟩ := hat
  have e0 := (hb.cell (p := ⟨b, o + k * 6 + 0, none⟩) hb1).trans (hc1 0 (by decide))
  have e1 := (hb.cell (p := ⟨b, o + k * 6 + 1, none⟩) hb1).trans (hc1 1 (by decide))
  have e2 := (hb.cell (p := ⟨b, o + k * 6 + 2, none⟩) hb1).trans (hc1 2 (by decide))
  have e3 := (hb.cell (p := ⟨b, o + k * 6 + 3, none⟩) hb1).trans (hc1 3 (by decide))
  have e4 := (hb.cell (p := ⟨b, o + k * 6 + 4, none⟩) hb1).trans (hc1 4 (by decide))
  have e5 := (hb.cell (p := ⟨b, o + k * 6 + 5, none⟩) hb1).trans (hc1 5 (by decide))
  exact ⟨b, o, a1, a2, a3, a4, a5, c1, c2, c3, c4, c5, rfl, hb1, ⟨e0, e1, e2, e3, e4, e5⟩, hs.any.below hb⟩
theorem modE_S {Q : Nat → Prop} {w : World} {a : Option Addr} {l : List ModuleD} (h : Rows moduleE Q w a l) : Rows moduleS Q w a l := fun i hi => by
  obtain ⟨b, o, cs, h1, h2, h3, h4, a1, a2, a3, a4, a5, h5, h6⟩ := h i hi
  exact ⟨b, o, cs, h1, h2, h3, h4, a1, a2, a3, a4, a5, _, _, _, _, _, h5, h6⟩
theorem seen_at {Q : Nat → Prop} {w w' : World} {a : Option Addr} {l : List SeenD} {k : Nat} (hr : Rows seenS Q w a l) (hk : k < l.length) (hb : Below w.heap.size w w') :
    ∃ b o, a = some ⟨b, o, none⟩ ∧ b < w.heap.size ∧ w'.cell? ⟨b, o + k * 3, none⟩ = some (.string l[k].fMod) ∧ w'.cell? ⟨b, o + k * 3 + 1, none⟩ = some (.string l[k].fName) ∧ w'.cell? ⟨b, o + k * 3 + 2, none⟩ = some (.int .i64 l[k].fSum) := by
  obtain ⟨b, o, cs, rfl, _, hb1, hc1, hat⟩ := hr k hk
  obtain rfl : cs = [.string l[k].fMod, .string l[k].fName, .int .i64 l[k].fSum] := hat
  have e0 := (hb.cell (p := ⟨b, o + k * 3 + 0, none⟩) hb1).trans (hc1 0 (by decide))
  have e1 := (hb.cell (p := ⟨b, o + k * 3 + 1, none⟩) hb1).trans (hc1 1 (by decide))
  have e2 := (hb.cell (p := ⟨b, o + k * 3 + 2, none⟩) hb1).trans (hc1 2 (by decide))
  exact ⟨b, o, rfl, hb1, e0, e1, e2⟩

set_option maxRecDepth 100000 in
set_option maxHeartbeats 16000000 in
theorem sSameStore (a a' : Option Addr) (c c' : Nat) (l m : List ModuleD) (w : World) (hl : l.length ≤ 1048576) (hs : ∀ t ∈ l, modK t) (hr : Rows moduleS Any w a l) (hr' : Rows moduleS Any w a' m) :
    Calls Try.prog 5 #[.slice a l.length c, .slice a' m.length c'] w fun e w' => e = .returned (.bool (sameB l m)) ∧ Below w.heap.size w w' := by
  have Hr := Lib.hid hr
  have Hr' := Lib.hid hr'
  have Hs := Lib.hid hs
  clear hr hr' hs
  by_cases hlen : m.length = l.length
  case neg =>
    have Hv := Lib.hid (agree_len (l := l) (m := m) (fun e => hlen e.symm))
    have h1 : ¬ (l.length : Int) = (m.length : Int) := by omega
    go_enter Try.func5, Try.ntmps5
    go_wp2_with fail
    go_ret
    exact ⟨by rw [Hv.out]; rfl, Below.refl _ _⟩
  rw [hlen]
  have Hlen := Lib.hid hlen
  clear hlen
  go_enter Try.func5, Try.ntmps5
  go_wp2_with fail
  go_loopw [15] (fun i wr => ∃ k : Nat, i = .int .i64 k ∧ k ≤ l.length ∧ agreeTo l m k ∧ Below w.heap.size w wr) (fun i _ => l.length - (intOf i).toNat)
  case atStart => exact ⟨0, rfl, by omega, agree_zero, Below.refl _ _⟩
  case round =>
    obtain ⟨k, rfl, hk, hto, hbel⟩ := hrel
    have Hto := Lib.hid hto
    clear hto
    by_cases hlt : k < l.length
    case neg =>
      have Hv := Lib.hid (agree_all Hlen.out.symm (show agreeTo l m l.length by rw [← show k = l.length by omega]; exact Hto.out))
      have Hbel := Lib.hid hbel
      clear hbel
      go_wp2_with fail
      go_ret
      exact ⟨by rw [Hv.out]; rfl, Hbel.out⟩
    have hlt' : k < m.length := by rw [Hlen.out]; exact hlt
    obtain ⟨b, o, a1, a2, a3, a4, a5, c1, c2, c3, c4, c5, rfl, hbb, ⟨e0, e1, e2, e3, e4, e5⟩, hme⟩ := moduleS_at Hr.out hlt hbel
    obtain ⟨b', o', b1, b2, b3, b4, b5, d1, d2, d3, d4, d5, rfl, hbb', hq, hmq⟩ := moduleS_at Hr'.out hlt' hbel
    have Hbad := Lib.hid (fun h => agree_bad hlt hlt' h)
    have Hnx := Lib.hid (fun h => agree_next hlt hlt' Hto.out h)
    have hfk := (Hs.out _ (List.getElem_mem hlt)).1
    have hft := (Hs.out _ (List.getElem_mem hlt)).2
    have hsz := hbel.size
    have hybx := Box.new wr 45 (moduleC l[k] a1 a2 a3 a4 a5 c1 c2 c3 c4 c5)
    have hyal := (Below.refl wr.heap.size wr).alloc (Nat.le_refl _) (.cells (moduleC l[k] a1 a2 a3 a4 a5 c1 c2 c3 c4 c5) 45)
    have Y00 := Lib.hid hybx
    have B00 := Lib.hid (hbel.alloc hsz (.cells (moduleC l[k] a1 a2 a3 a4 a5 c1 c2 c3 c4 c5) 45))
    have Q00 := Lib.hid (hq.below hyal)
    have R00 := Lib.hid (hme.below hyal)
    have S00 := Lib.hid (hmq.below hyal)
    have KS := Lib.hid hfk
    have i1 : (0 : Int) ≤ (k : Int) := by omega
    have i2 : (k : Int) < (l.length : Int) := by omega
    clear hbel hq hme hmq hybx hyal hfk
    generalize l[k] = t at *
    generalize m[k] = u at *
    clear hlt'
    have HS := Lib.hid (fun (W : World) (hA : ScopeR Any W a1 a2 a3 a4 t.fScope) (hB : ScopeR Any W b1 b2 b3 b4 u.fScope) => sSameScope t.fScope u.fScope a1 a2 a3 a4 b1 b2 b3 b4 c1 c2 c3 c4 d1 d2 d3 d4 W KS.out hA hB)
    go_wp2_with fail
    clear e0 e1 e2 e3 e4 e5
    have hyw : (wr.alloc (.cells (moduleC t a1 a2 a3 a4 a5 c1 c2 c3 c4 c5) 45)).heap.size = wr.heap.size + 1 := by simp
    generalize hyy : wr.heap.size = y at *
    generalize wr.alloc (.cells (moduleC t a1 a2 a3 a4 a5 c1 c2 c3 c4 c5) 45) = wq at *
    have Y0 := Lib.hid (show Box wq.drew y 45 (moduleC t a1 a2 a3 a4 a5 c1 c2 c3 c4 c5) from Y00.out.drewN 1)
    have Q0 := Lib.hid Q00.out.drew
    have R0 := Lib.hid R00.out.drew
    have S0 := Lib.hid S00.out.drew
    have B0 := Lib.hid (show Below w.heap.size w wq.drew from belowN B00.out 1)
    clear hyy Y00 Q00 R00 S00 B00
    by_cases p0 : t.fScope = u.fScope
    case neg =>
      have Hv := Lib.hid (Hbad.out (fun e => p0 (by rw [e])))
      have HQ := Lib.hid (eqB_false p0)
      clear p0 Hnx
      --SA<
      refine wp_region_held_drew (S := fun w' => w'.cell? ⟨y, 0, none⟩ = some (.string t.fScope.fName) ∧ w'.cell? ⟨y, 1, none⟩ = some (.slice a1 t.fScope.fImports.length c1) ∧ w'.cell? ⟨y, 2, none⟩ = some (.slice a2 t.fScope.fTypes.length c2) ∧ w'.cell? ⟨y, 3, none⟩ = some (.slice a3 t.fScope.fObjects.length c3) ∧ w'.cell? ⟨y, 4, none⟩ = some (.slice a4 t.fScope.fUses.length c4) ∧ w'.cell? ⟨y, 5, none⟩ = some (.slice a5 t.fSeen.length c5) ∧ w'.cell? ⟨b', o' + k * 6, none⟩ = some (.string u.fScope.fName) ∧ w'.cell? ⟨b', o' + k * 6 + 1, none⟩ = some (.slice b1 u.fScope.fImports.length d1) ∧ w'.cell? ⟨b', o' + k * 6 + 2, none⟩ = some (.slice b2 u.fScope.fTypes.length d2) ∧ w'.cell? ⟨b', o' + k * 6 + 3, none⟩ = some (.slice b3 u.fScope.fObjects.length d3) ∧ w'.cell? ⟨b', o' + k * 6 + 4, none⟩ = some (.slice b4 u.fScope.fUses.length d4) ∧ w'.cell? ⟨b', o' + k * 6 + 5, none⟩ = some (.slice b5 u.fSeen.length d5)) (by kernel_rfl) ?_ (fun hHeld => ?_)
      · try dsimp only
        exact ⟨Y0.out.cell 0, Y0.out.cell 1, Y0.out.cell 2, Y0.out.cell 3, Y0.out.cell 4, Y0.out.cell 5, Q0.out⟩
      refine wpAnyH_take (i := 0) (oi := { dst := some 20, op := Op.fieldAddr 45 (Operand.tmp 6) 0, type := 0, pos := "l11_store.go:128", after := #[], guard := none }) (v := .pointer (some ⟨y, 0, none⟩)) rfl (by kernel_rfl) (by kernel_rfl) (by kernel_rfl) (fun _ _ _ h => h) (Or.inl ⟨by rfl, ?_⟩) (by assumption) ?_
      · intro wS hSw
        try dsimp only at hSw
        go_simp
      try simp only [Act.put, List.setIfInBounds_toArray, List.set_cons_zero, List.set_cons_succ]
      refine wpAnyH_take (i := 1) (oi := { dst := some 21, op := Op.load 42 (Operand.tmp 20), type := 42, pos := "l11_store.go:128", after := #[{ on := 0, ground := Ground.data }], guard := none }) (v := .agg (scopeC t.fScope a1 a2 a3 a4 c1 c2 c3 c4)) rfl (by kernel_rfl) (by kernel_rfl) (by kernel_rfl) (fun _ _ _ h => h) (Or.inl ⟨by rfl, ?_⟩) (by assumption) ?_
      · intro wS hSw
        try dsimp only at hSw
        go_simp
      try simp only [Act.put, List.setIfInBounds_toArray, List.set_cons_zero, List.set_cons_succ]
      refine wpAnyH_take (i := 2) (oi := { dst := some 22, op := Op.move (Operand.tmp 1), type := 25, pos := "l11_store.go:128", after := #[], guard := none }) (v := .slice (some ⟨b', o', none⟩) l.length c') rfl (by kernel_rfl) (by kernel_rfl) (by kernel_rfl) (fun _ _ _ h => h) (Or.inl ⟨by rfl, ?_⟩) (by assumption) ?_
      · intro wS hSw
        try dsimp only at hSw
        go_simp
      try simp only [Act.put, List.setIfInBounds_toArray, List.set_cons_zero, List.set_cons_succ]
      refine wpAnyH_take (i := 3) (oi := { dst := some 23, op := Op.move (Operand.tmp 5), type := 3, pos := "l11_store.go:128", after := #[], guard := none }) (v := .int .i64 (k : Int)) rfl (by kernel_rfl) (by kernel_rfl) (by kernel_rfl) (fun _ _ _ h => h) (Or.inl ⟨by rfl, ?_⟩) (by assumption) ?_
      · intro wS hSw
        try dsimp only at hSw
        go_simp
      try simp only [Act.put, List.setIfInBounds_toArray, List.set_cons_zero, List.set_cons_succ]
      refine wpAnyH_take (i := 4) (oi := { dst := some 24, op := Op.indexAddr 25 (Operand.tmp 22) (Operand.tmp 23), type := 0, pos := "l11_store.go:128", after := #[{ on := 2, ground := Ground.data }, { on := 3, ground := Ground.data }], guard := none }) (v := .pointer (some ⟨b', o' + k * 6, none⟩)) rfl (by kernel_rfl) (by kernel_rfl) (by kernel_rfl) (fun _ _ _ h => h) (Or.inl ⟨by rfl, ?_⟩) (by assumption) ?_
      · intro wS hSw
        try dsimp only at hSw
        go_simp
      try simp only [Act.put, List.setIfInBounds_toArray, List.set_cons_zero, List.set_cons_succ]
      refine wpAnyH_take (i := 5) (oi := { dst := some 25, op := Op.fieldAddr 45 (Operand.tmp 24) 0, type := 0, pos := "l11_store.go:128", after := #[{ on := 4, ground := Ground.data }], guard := none }) (v := .pointer (some ⟨b', o' + k * 6, none⟩)) rfl (by kernel_rfl) (by kernel_rfl) (by kernel_rfl) (fun _ _ _ h => h) (Or.inl ⟨by rfl, ?_⟩) (by assumption) ?_
      · intro wS hSw
        try dsimp only at hSw
        go_simp
      try simp only [Act.put, List.setIfInBounds_toArray, List.set_cons_zero, List.set_cons_succ]
      refine wpAnyH_take (i := 6) (oi := { dst := some 26, op := Op.load 42 (Operand.tmp 25), type := 42, pos := "l11_store.go:128", after := #[{ on := 5, ground := Ground.data }], guard := none }) (v := .agg (scopeC u.fScope b1 b2 b3 b4 d1 d2 d3 d4)) rfl (by kernel_rfl) (by kernel_rfl) (by kernel_rfl) (fun _ _ _ h => h) (Or.inl ⟨by rfl, ?_⟩) (by assumption) ?_
      · intro wS hSw
        try dsimp only at hSw
        go_simp
      try simp only [Act.put, List.setIfInBounds_toArray, List.set_cons_zero, List.set_cons_succ]
      refine wpAnyH_ready (rs := [7]) (by kernel_rfl) (by simp) ?_
      refine AllReadyH.cons (o := { dst := some 27, op := Op.call { callee := Callee.value (Operand.func 10), args := #[Operand.tmp 21, Operand.tmp 26], argTypes := #[42, 42] }, type := 4, pos := "l11_store.go:128", after := #[{ on := 1, ground := Ground.data }, { on := 6, ground := Ground.data }], guard := none }) rfl (fun K hK => ?_) AllReadyH.nil
      go_simp
      go_at_call 10
      refine (HS.out _ R0.out.scope S0.out.scope).mono ?_
      rw [HQ.out]
      rintro e w1 ⟨rfl, hb1⟩
      have Y1 := Lib.hid (Y0.out.below hb1 Y0.out.lt)
      have Q1 := Lib.hid (Q0.out.below hb1)
      have R1 := Lib.hid (R0.out.below hb1)
      have S1 := Lib.hid (S0.out.below hb1)
      have B1 := Lib.hid (B0.out.trans (hb1.mono B0.out.size))
      clear hb1
      refine hK.out _ _ ?_ (fun hHeld2 => ?_)
      · try dsimp only
        exact ⟨Y1.out.cell 0, Y1.out.cell 1, Y1.out.cell 2, Y1.out.cell 3, Y1.out.cell 4, Y1.out.cell 5, Q1.out⟩
      clear hK K hHeld
      have hHeld := hHeld2
      clear hHeld2
      try simp only [Act.put, List.setIfInBounds_toArray, List.set_cons_zero, List.set_cons_succ]
      refine wpAnyH_take (i := 8) (oi := { dst := some 28, op := Op.unOp UnOp.not 4 (Operand.tmp 27), type := 4, pos := "l11_store.go:128", after := #[{ on := 7, ground := Ground.data }], guard := none }) (v := .bool true) rfl (by kernel_rfl) (by kernel_rfl) (by kernel_rfl) (fun _ _ _ h => h) (Or.inl ⟨by rfl, ?_⟩) (by assumption) ?_
      · intro wS hSw
        try dsimp only at hSw
        go_simp
      try simp only [Act.put, List.setIfInBounds_toArray, List.set_cons_zero, List.set_cons_succ]
      refine wpAnyH_take (i := 9) (oi := { dst := some 29, op := Op.move (Operand.tmp 28), type := 4, pos := "l11_store.go:128", after := #[{ on := 8, ground := Ground.data }, { on := 7, ground := Ground.chain }], guard := none }) (v := .bool true) rfl (by kernel_rfl) (by kernel_rfl) (by kernel_rfl) (fun _ _ _ h => h) (Or.inl ⟨by rfl, ?_⟩) (by assumption) ?_
      · intro wS hSw
        try dsimp only at hSw
        go_simp
      try simp only [Act.put, List.setIfInBounds_toArray, List.set_cons_zero, List.set_cons_succ]
      refine wpAnyH_take (i := 10) (oi := { dst := some 30, op := Op.fieldAddr 45 (Operand.tmp 6) 1, type := 0, pos := "l11_store.go:128", after := #[{ on := 9, ground := Ground.guard }], guard := some (9, false) }) (v := undef) rfl (by kernel_rfl) (by kernel_rfl) (by kernel_rfl) (fun _ _ _ h => h) (Or.inr ⟨by rfl, rfl⟩) (by assumption) ?_
      try simp only [Act.put, List.setIfInBounds_toArray, List.set_cons_zero, List.set_cons_succ]
      refine wpAnyH_take (i := 11) (oi := { dst := some 31, op := Op.load 43 (Operand.tmp 30), type := 43, pos := "l11_store.go:128", after := #[{ on := 10, ground := Ground.data }, { on := 9, ground := Ground.guard }], guard := some (9, false) }) (v := undef) rfl (by kernel_rfl) (by kernel_rfl) (by kernel_rfl) (fun _ _ _ h => h) (Or.inr ⟨by rfl, rfl⟩) (by assumption) ?_
      try simp only [Act.put, List.setIfInBounds_toArray, List.set_cons_zero, List.set_cons_succ]
      refine wpAnyH_take (i := 12) (oi := { dst := some 32, op := Op.call { callee := Callee.builtin Builtin.len, args := #[Operand.tmp 31], argTypes := #[43] }, type := 3, pos := "l11_store.go:128", after := #[{ on := 11, ground := Ground.data }, { on := 9, ground := Ground.guard }], guard := some (9, false) }) (v := undef) rfl (by kernel_rfl) (by kernel_rfl) (by kernel_rfl) (fun _ _ _ h => h) (Or.inr ⟨by rfl, rfl⟩) (by assumption) ?_
      try simp only [Act.put, List.setIfInBounds_toArray, List.set_cons_zero, List.set_cons_succ]
      refine wpAnyH_take (i := 13) (oi := { dst := some 33, op := Op.move (Operand.tmp 1), type := 25, pos := "l11_store.go:128", after := #[{ on := 9, ground := Ground.guard }], guard := some (9, false) }) (v := undef) rfl (by kernel_rfl) (by kernel_rfl) (by kernel_rfl) (fun _ _ _ h => h) (Or.inr ⟨by rfl, rfl⟩) (by assumption) ?_
      try simp only [Act.put, List.setIfInBounds_toArray, List.set_cons_zero, List.set_cons_succ]
      refine wpAnyH_take (i := 14) (oi := { dst := some 34, op := Op.move (Operand.tmp 5), type := 3, pos := "l11_store.go:128", after := #[{ on := 9, ground := Ground.guard }], guard := some (9, false) }) (v := undef) rfl (by kernel_rfl) (by kernel_rfl) (by kernel_rfl) (fun _ _ _ h => h) (Or.inr ⟨by rfl, rfl⟩) (by assumption) ?_
      try simp only [Act.put, List.setIfInBounds_toArray, List.set_cons_zero, List.set_cons_succ]
      refine wpAnyH_take (i := 15) (oi := { dst := some 35, op := Op.indexAddr 25 (Operand.tmp 33) (Operand.tmp 34), type := 0, pos := "l11_store.go:128", after := #[{ on := 13, ground := Ground.data }, { on := 14, ground := Ground.data }, { on := 9, ground := Ground.guard }], guard := some (9, false) }) (v := undef) rfl (by kernel_rfl) (by kernel_rfl) (by kernel_rfl) (fun _ _ _ h => h) (Or.inr ⟨by rfl, rfl⟩) (by assumption) ?_
      try simp only [Act.put, List.setIfInBounds_toArray, List.set_cons_zero, List.set_cons_succ]
      refine wpAnyH_take (i := 16) (oi := { dst := some 36, op := Op.fieldAddr 45 (Operand.tmp 35) 1, type := 0, pos := "l11_store.go:128", after := #[{ on := 15, ground := Ground.data }, { on := 9, ground := Ground.guard }], guard := some (9, false) }) (v := undef) rfl (by kernel_rfl) (by kernel_rfl) (by kernel_rfl) (fun _ _ _ h => h) (Or.inr ⟨by rfl, rfl⟩) (by assumption) ?_
      try simp only [Act.put, List.setIfInBounds_toArray, List.set_cons_zero, List.set_cons_succ]
      refine wpAnyH_take (i := 17) (oi := { dst := some 37, op := Op.load 43 (Operand.tmp 36), type := 43, pos := "l11_store.go:128", after := #[{ on := 16, ground := Ground.data }, { on := 9, ground := Ground.guard }], guard := some (9, false) }) (v := undef) rfl (by kernel_rfl) (by kernel_rfl) (by kernel_rfl) (fun _ _ _ h => h) (Or.inr ⟨by rfl, rfl⟩) (by assumption) ?_
      try simp only [Act.put, List.setIfInBounds_toArray, List.set_cons_zero, List.set_cons_succ]
      refine wpAnyH_take (i := 18) (oi := { dst := some 38, op := Op.call { callee := Callee.builtin Builtin.len, args := #[Operand.tmp 37], argTypes := #[43] }, type := 3, pos := "l11_store.go:128", after := #[{ on := 17, ground := Ground.data }, { on := 9, ground := Ground.guard }], guard := some (9, false) }) (v := undef) rfl (by kernel_rfl) (by kernel_rfl) (by kernel_rfl) (fun _ _ _ h => h) (Or.inr ⟨by rfl, rfl⟩) (by assumption) ?_
      try simp only [Act.put, List.setIfInBounds_toArray, List.set_cons_zero, List.set_cons_succ]
      refine wpAnyH_take (i := 19) (oi := { dst := some 39, op := Op.binOp BinOp.neq 3 (Operand.tmp 32) (Operand.tmp 38) 3, type := 4, pos := "l11_store.go:128", after := #[{ on := 12, ground := Ground.data }, { on := 18, ground := Ground.data }, { on := 9, ground := Ground.guard }], guard := some (9, false) }) (v := undef) rfl (by kernel_rfl) (by kernel_rfl) (by kernel_rfl) (fun _ _ _ h => h) (Or.inr ⟨by rfl, rfl⟩) (by assumption) ?_
      try simp only [Act.put, List.setIfInBounds_toArray, List.set_cons_zero, List.set_cons_succ]
      refine wpAnyH_take (i := 20) (oi := { dst := some 40, op := Op.pick (Operand.tmp 29) (Operand.const (Value.bool true)) (Operand.tmp 39), type := 4, pos := "l11_store.go:128", after := #[{ on := 9, ground := Ground.data }, { on := 19, ground := Ground.data }], guard := none }) (v := .bool true) rfl (by kernel_rfl) (by kernel_rfl) (by kernel_rfl) (fun _ _ _ h => h) (Or.inl ⟨by rfl, ?_⟩) (by assumption) ?_
      · intro wS hSw
        try dsimp only at hSw
        go_simp
      try simp only [Act.put, List.setIfInBounds_toArray, List.set_cons_zero, List.set_cons_succ]
      refine wpAnyH_done (by kernel_rfl) ?_ _
      --SA>
      go_wp2_with fail
      go_ret
      exact ⟨by rw [Hv.out]; rfl, B1.out⟩
    have HQ := Lib.hid (eqB_true p0)
    have P0 := Lib.hid p0
    clear p0
    by_cases p1 : u.fSeen.length = t.fSeen.length
    case neg =>
      have Hv := Lib.hid (Hbad.out (fun e => p1 (by rw [e])))
      have h1 : ¬ (t.fSeen.length : Int) = (u.fSeen.length : Int) := by omega
      clear p1 Hnx
      --SB<
      refine wp_region_held_drew (S := fun w' => w'.cell? ⟨y, 0, none⟩ = some (.string t.fScope.fName) ∧ w'.cell? ⟨y, 1, none⟩ = some (.slice a1 t.fScope.fImports.length c1) ∧ w'.cell? ⟨y, 2, none⟩ = some (.slice a2 t.fScope.fTypes.length c2) ∧ w'.cell? ⟨y, 3, none⟩ = some (.slice a3 t.fScope.fObjects.length c3) ∧ w'.cell? ⟨y, 4, none⟩ = some (.slice a4 t.fScope.fUses.length c4) ∧ w'.cell? ⟨y, 5, none⟩ = some (.slice a5 t.fSeen.length c5) ∧ w'.cell? ⟨b', o' + k * 6, none⟩ = some (.string u.fScope.fName) ∧ w'.cell? ⟨b', o' + k * 6 + 1, none⟩ = some (.slice b1 u.fScope.fImports.length d1) ∧ w'.cell? ⟨b', o' + k * 6 + 2, none⟩ = some (.slice b2 u.fScope.fTypes.length d2) ∧ w'.cell? ⟨b', o' + k * 6 + 3, none⟩ = some (.slice b3 u.fScope.fObjects.length d3) ∧ w'.cell? ⟨b', o' + k * 6 + 4, none⟩ = some (.slice b4 u.fScope.fUses.length d4) ∧ w'.cell? ⟨b', o' + k * 6 + 5, none⟩ = some (.slice b5 u.fSeen.length d5)) (by kernel_rfl) ?_ (fun hHeld => ?_)
      · try dsimp only
        exact ⟨Y0.out.cell 0, Y0.out.cell 1, Y0.out.cell 2, Y0.out.cell 3, Y0.out.cell 4, Y0.out.cell 5, Q0.out⟩
      refine wpAnyH_take (i := 0) (oi := { dst := some 20, op := Op.fieldAddr 45 (Operand.tmp 6) 0, type := 0, pos := "l11_store.go:128", after := #[], guard := none }) (v := .pointer (some ⟨y, 0, none⟩)) rfl (by kernel_rfl) (by kernel_rfl) (by kernel_rfl) (fun _ _ _ h => h) (Or.inl ⟨by rfl, ?_⟩) (by assumption) ?_
      · intro wS hSw
        try dsimp only at hSw
        go_simp
      try simp only [Act.put, List.setIfInBounds_toArray, List.set_cons_zero, List.set_cons_succ]
      refine wpAnyH_take (i := 1) (oi := { dst := some 21, op := Op.load 42 (Operand.tmp 20), type := 42, pos := "l11_store.go:128", after := #[{ on := 0, ground := Ground.data }], guard := none }) (v := .agg (scopeC t.fScope a1 a2 a3 a4 c1 c2 c3 c4)) rfl (by kernel_rfl) (by kernel_rfl) (by kernel_rfl) (fun _ _ _ h => h) (Or.inl ⟨by rfl, ?_⟩) (by assumption) ?_
      · intro wS hSw
        try dsimp only at hSw
        go_simp
      try simp only [Act.put, List.setIfInBounds_toArray, List.set_cons_zero, List.set_cons_succ]
      refine wpAnyH_take (i := 2) (oi := { dst := some 22, op := Op.move (Operand.tmp 1), type := 25, pos := "l11_store.go:128", after := #[], guard := none }) (v := .slice (some ⟨b', o', none⟩) l.length c') rfl (by kernel_rfl) (by kernel_rfl) (by kernel_rfl) (fun _ _ _ h => h) (Or.inl ⟨by rfl, ?_⟩) (by assumption) ?_
      · intro wS hSw
        try dsimp only at hSw
        go_simp
      try simp only [Act.put, List.setIfInBounds_toArray, List.set_cons_zero, List.set_cons_succ]
      refine wpAnyH_take (i := 3) (oi := { dst := some 23, op := Op.move (Operand.tmp 5), type := 3, pos := "l11_store.go:128", after := #[], guard := none }) (v := .int .i64 (k : Int)) rfl (by kernel_rfl) (by kernel_rfl) (by kernel_rfl) (fun _ _ _ h => h) (Or.inl ⟨by rfl, ?_⟩) (by assumption) ?_
      · intro wS hSw
        try dsimp only at hSw
        go_simp
      try simp only [Act.put, List.setIfInBounds_toArray, List.set_cons_zero, List.set_cons_succ]
      refine wpAnyH_take (i := 4) (oi := { dst := some 24, op := Op.indexAddr 25 (Operand.tmp 22) (Operand.tmp 23), type := 0, pos := "l11_store.go:128", after := #[{ on := 2, ground := Ground.data }, { on := 3, ground := Ground.data }], guard := none }) (v := .pointer (some ⟨b', o' + k * 6, none⟩)) rfl (by kernel_rfl) (by kernel_rfl) (by kernel_rfl) (fun _ _ _ h => h) (Or.inl ⟨by rfl, ?_⟩) (by assumption) ?_
      · intro wS hSw
        try dsimp only at hSw
        go_simp
      try simp only [Act.put, List.setIfInBounds_toArray, List.set_cons_zero, List.set_cons_succ]
      refine wpAnyH_take (i := 5) (oi := { dst := some 25, op := Op.fieldAddr 45 (Operand.tmp 24) 0, type := 0, pos := "l11_store.go:128", after := #[{ on := 4, ground := Ground.data }], guard := none }) (v := .pointer (some ⟨b', o' + k * 6, none⟩)) rfl (by kernel_rfl) (by kernel_rfl) (by kernel_rfl) (fun _ _ _ h => h) (Or.inl ⟨by rfl, ?_⟩) (by assumption) ?_
      · intro wS hSw
        try dsimp only at hSw
        go_simp
      try simp only [Act.put, List.setIfInBounds_toArray, List.set_cons_zero, List.set_cons_succ]
      refine wpAnyH_take (i := 6) (oi := { dst := some 26, op := Op.load 42 (Operand.tmp 25), type := 42, pos := "l11_store.go:128", after := #[{ on := 5, ground := Ground.data }], guard := none }) (v := .agg (scopeC u.fScope b1 b2 b3 b4 d1 d2 d3 d4)) rfl (by kernel_rfl) (by kernel_rfl) (by kernel_rfl) (fun _ _ _ h => h) (Or.inl ⟨by rfl, ?_⟩) (by assumption) ?_
      · intro wS hSw
        try dsimp only at hSw
        go_simp
      try simp only [Act.put, List.setIfInBounds_toArray, List.set_cons_zero, List.set_cons_succ]
      refine wpAnyH_ready (rs := [7]) (by kernel_rfl) (by simp) ?_
      refine AllReadyH.cons (o := { dst := some 27, op := Op.call { callee := Callee.value (Operand.func 10), args := #[Operand.tmp 21, Operand.tmp 26], argTypes := #[42, 42] }, type := 4, pos := "l11_store.go:128", after := #[{ on := 1, ground := Ground.data }, { on := 6, ground := Ground.data }], guard := none }) rfl (fun K hK => ?_) AllReadyH.nil
      go_simp
      go_at_call 10
      refine (HS.out _ R0.out.scope S0.out.scope).mono ?_
      rw [HQ.out]
      rintro e w1 ⟨rfl, hb1⟩
      have Y1 := Lib.hid (Y0.out.below hb1 Y0.out.lt)
      have Q1 := Lib.hid (Q0.out.below hb1)
      have R1 := Lib.hid (R0.out.below hb1)
      have S1 := Lib.hid (S0.out.below hb1)
      have B1 := Lib.hid (B0.out.trans (hb1.mono B0.out.size))
      clear hb1
      refine hK.out _ _ ?_ (fun hHeld2 => ?_)
      · try dsimp only
        exact ⟨Y1.out.cell 0, Y1.out.cell 1, Y1.out.cell 2, Y1.out.cell 3, Y1.out.cell 4, Y1.out.cell 5, Q1.out⟩
      clear hK K hHeld
      have hHeld := hHeld2
      clear hHeld2
      try simp only [Act.put, List.setIfInBounds_toArray, List.set_cons_zero, List.set_cons_succ]
      refine wpAnyH_take (i := 8) (oi := { dst := some 28, op := Op.unOp UnOp.not 4 (Operand.tmp 27), type := 4, pos := "l11_store.go:128", after := #[{ on := 7, ground := Ground.data }], guard := none }) (v := .bool false) rfl (by kernel_rfl) (by kernel_rfl) (by kernel_rfl) (fun _ _ _ h => h) (Or.inl ⟨by rfl, ?_⟩) (by assumption) ?_
      · intro wS hSw
        try dsimp only at hSw
        go_simp
      try simp only [Act.put, List.setIfInBounds_toArray, List.set_cons_zero, List.set_cons_succ]
      refine wpAnyH_take (i := 9) (oi := { dst := some 29, op := Op.move (Operand.tmp 28), type := 4, pos := "l11_store.go:128", after := #[{ on := 8, ground := Ground.data }, { on := 7, ground := Ground.chain }], guard := none }) (v := .bool false) rfl (by kernel_rfl) (by kernel_rfl) (by kernel_rfl) (fun _ _ _ h => h) (Or.inl ⟨by rfl, ?_⟩) (by assumption) ?_
      · intro wS hSw
        try dsimp only at hSw
        go_simp
      try simp only [Act.put, List.setIfInBounds_toArray, List.set_cons_zero, List.set_cons_succ]
      refine wpAnyH_take (i := 10) (oi := { dst := some 30, op := Op.fieldAddr 45 (Operand.tmp 6) 1, type := 0, pos := "l11_store.go:128", after := #[{ on := 9, ground := Ground.guard }], guard := some (9, false) }) (v := .pointer (some ⟨y, 5, none⟩)) rfl (by kernel_rfl) (by kernel_rfl) (by kernel_rfl) (fun _ _ _ h => h) (Or.inl ⟨by rfl, ?_⟩) (by assumption) ?_
      · intro wS hSw
        try dsimp only at hSw
        go_simp
      try simp only [Act.put, List.setIfInBounds_toArray, List.set_cons_zero, List.set_cons_succ]
      refine wpAnyH_take (i := 11) (oi := { dst := some 31, op := Op.load 43 (Operand.tmp 30), type := 43, pos := "l11_store.go:128", after := #[{ on := 10, ground := Ground.data }, { on := 9, ground := Ground.guard }], guard := some (9, false) }) (v := .slice a5 t.fSeen.length c5) rfl (by kernel_rfl) (by kernel_rfl) (by kernel_rfl) (fun _ _ _ h => h) (Or.inl ⟨by rfl, ?_⟩) (by assumption) ?_
      · intro wS hSw
        try dsimp only at hSw
        go_simp
      try simp only [Act.put, List.setIfInBounds_toArray, List.set_cons_zero, List.set_cons_succ]
      refine wpAnyH_take (i := 12) (oi := { dst := some 32, op := Op.call { callee := Callee.builtin Builtin.len, args := #[Operand.tmp 31], argTypes := #[43] }, type := 3, pos := "l11_store.go:128", after := #[{ on := 11, ground := Ground.data }, { on := 9, ground := Ground.guard }], guard := some (9, false) }) (v := .int .i64 (t.fSeen.length : Int)) rfl (by kernel_rfl) (by kernel_rfl) (by kernel_rfl) (fun _ _ _ h => h) (Or.inl ⟨by rfl, ?_⟩) (by assumption) ?_
      · intro wS hSw
        try dsimp only at hSw
        go_simp
      try simp only [Act.put, List.setIfInBounds_toArray, List.set_cons_zero, List.set_cons_succ]
      refine wpAnyH_take (i := 13) (oi := { dst := some 33, op := Op.move (Operand.tmp 1), type := 25, pos := "l11_store.go:128", after := #[{ on := 9, ground := Ground.guard }], guard := some (9, false) }) (v := .slice (some ⟨b', o', none⟩) l.length c') rfl (by kernel_rfl) (by kernel_rfl) (by kernel_rfl) (fun _ _ _ h => h) (Or.inl ⟨by rfl, ?_⟩) (by assumption) ?_
      · intro wS hSw
        try dsimp only at hSw
        go_simp
      try simp only [Act.put, List.setIfInBounds_toArray, List.set_cons_zero, List.set_cons_succ]
      refine wpAnyH_take (i := 14) (oi := { dst := some 34, op := Op.move (Operand.tmp 5), type := 3, pos := "l11_store.go:128", after := #[{ on := 9, ground := Ground.guard }], guard := some (9, false) }) (v := .int .i64 (k : Int)) rfl (by kernel_rfl) (by kernel_rfl) (by kernel_rfl) (fun _ _ _ h => h) (Or.inl ⟨by rfl, ?_⟩) (by assumption) ?_
      · intro wS hSw
        try dsimp only at hSw
        go_simp
      try simp only [Act.put, List.setIfInBounds_toArray, List.set_cons_zero, List.set_cons_succ]
      refine wpAnyH_take (i := 15) (oi := { dst := some 35, op := Op.indexAddr 25 (Operand.tmp 33) (Operand.tmp 34), type := 0, pos := "l11_store.go:128", after := #[{ on := 13, ground := Ground.data }, { on := 14, ground := Ground.data }, { on := 9, ground := Ground.guard }], guard := some (9, false) }) (v := .pointer (some ⟨b', o' + k * 6, none⟩)) rfl (by kernel_rfl) (by kernel_rfl) (by kernel_rfl) (fun _ _ _ h => h) (Or.inl ⟨by rfl, ?_⟩) (by assumption) ?_
      · intro wS hSw
        try dsimp only at hSw
        go_simp
      try simp only [Act.put, List.setIfInBounds_toArray, List.set_cons_zero, List.set_cons_succ]
      refine wpAnyH_take (i := 16) (oi := { dst := some 36, op := Op.fieldAddr 45 (Operand.tmp 35) 1, type := 0, pos := "l11_store.go:128", after := #[{ on := 15, ground := Ground.data }, { on := 9, ground := Ground.guard }], guard := some (9, false) }) (v := .pointer (some ⟨b', o' + k * 6 + 5, none⟩)) rfl (by kernel_rfl) (by kernel_rfl) (by kernel_rfl) (fun _ _ _ h => h) (Or.inl ⟨by rfl, ?_⟩) (by assumption) ?_
      · intro wS hSw
        try dsimp only at hSw
        go_simp
      try simp only [Act.put, List.setIfInBounds_toArray, List.set_cons_zero, List.set_cons_succ]
      refine wpAnyH_take (i := 17) (oi := { dst := some 37, op := Op.load 43 (Operand.tmp 36), type := 43, pos := "l11_store.go:128", after := #[{ on := 16, ground := Ground.data }, { on := 9, ground := Ground.guard }], guard := some (9, false) }) (v := .slice b5 u.fSeen.length d5) rfl (by kernel_rfl) (by kernel_rfl) (by kernel_rfl) (fun _ _ _ h => h) (Or.inl ⟨by rfl, ?_⟩) (by assumption) ?_
      · intro wS hSw
        try dsimp only at hSw
        go_simp
      try simp only [Act.put, List.setIfInBounds_toArray, List.set_cons_zero, List.set_cons_succ]
      refine wpAnyH_take (i := 18) (oi := { dst := some 38, op := Op.call { callee := Callee.builtin Builtin.len, args := #[Operand.tmp 37], argTypes := #[43] }, type := 3, pos := "l11_store.go:128", after := #[{ on := 17, ground := Ground.data }, { on := 9, ground := Ground.guard }], guard := some (9, false) }) (v := .int .i64 (u.fSeen.length : Int)) rfl (by kernel_rfl) (by kernel_rfl) (by kernel_rfl) (fun _ _ _ h => h) (Or.inl ⟨by rfl, ?_⟩) (by assumption) ?_
      · intro wS hSw
        try dsimp only at hSw
        go_simp
      try simp only [Act.put, List.setIfInBounds_toArray, List.set_cons_zero, List.set_cons_succ]
      refine wpAnyH_take (i := 19) (oi := { dst := some 39, op := Op.binOp BinOp.neq 3 (Operand.tmp 32) (Operand.tmp 38) 3, type := 4, pos := "l11_store.go:128", after := #[{ on := 12, ground := Ground.data }, { on := 18, ground := Ground.data }, { on := 9, ground := Ground.guard }], guard := some (9, false) }) (v := .bool true) rfl (by kernel_rfl) (by kernel_rfl) (by kernel_rfl) (fun _ _ _ h => h) (Or.inl ⟨by rfl, ?_⟩) (by assumption) ?_
      · intro wS hSw
        try dsimp only at hSw
        go_simp
      try simp only [Act.put, List.setIfInBounds_toArray, List.set_cons_zero, List.set_cons_succ]
      refine wpAnyH_take (i := 20) (oi := { dst := some 40, op := Op.pick (Operand.tmp 29) (Operand.const (Value.bool true)) (Operand.tmp 39), type := 4, pos := "l11_store.go:128", after := #[{ on := 9, ground := Ground.data }, { on := 19, ground := Ground.data }], guard := none }) (v := .bool true) rfl (by kernel_rfl) (by kernel_rfl) (by kernel_rfl) (fun _ _ _ h => h) (Or.inl ⟨by rfl, ?_⟩) (by assumption) ?_
      · intro wS hSw
        try dsimp only at hSw
        go_simp
      try simp only [Act.put, List.setIfInBounds_toArray, List.set_cons_zero, List.set_cons_succ]
      refine wpAnyH_done (by kernel_rfl) ?_ _
      --SB>
      go_wp2_with fail
      go_ret
      exact ⟨by rw [Hv.out]; rfl, B1.out⟩
    obtain ⟨n, hn1⟩ : ∃ n, t.fSeen.length = n := ⟨_, rfl⟩
    have hn2 : u.fSeen.length = n := p1.trans hn1
    have HN1 := Lib.hid hn1
    have HN2 := Lib.hid hn2
    have hnle : n ≤ 1048576 := by omega
    clear p1 hn1 hn2
    have Hx1 := Lib.hid (show t.fSeen = u.fSeen → agreeTo l m (k + 1) from fun e => Hnx.out (module_eq P0.out e))
    have Hx2 := Lib.hid (show ¬ t.fSeen = u.fSeen → sameB l m = false from fun e => Hbad.out (fun h => e (by rw [h])))
    clear Hnx Hbad
    --SC<
    refine wp_region_held_drew (S := fun w' => w'.cell? ⟨y, 0, none⟩ = some (.string t.fScope.fName) ∧ w'.cell? ⟨y, 1, none⟩ = some (.slice a1 t.fScope.fImports.length c1) ∧ w'.cell? ⟨y, 2, none⟩ = some (.slice a2 t.fScope.fTypes.length c2) ∧ w'.cell? ⟨y, 3, none⟩ = some (.slice a3 t.fScope.fObjects.length c3) ∧ w'.cell? ⟨y, 4, none⟩ = some (.slice a4 t.fScope.fUses.length c4) ∧ w'.cell? ⟨y, 5, none⟩ = some (.slice a5 n c5) ∧ w'.cell? ⟨b', o' + k * 6, none⟩ = some (.string u.fScope.fName) ∧ w'.cell? ⟨b', o' + k * 6 + 1, none⟩ = some (.slice b1 u.fScope.fImports.length d1) ∧ w'.cell? ⟨b', o' + k * 6 + 2, none⟩ = some (.slice b2 u.fScope.fTypes.length d2) ∧ w'.cell? ⟨b', o' + k * 6 + 3, none⟩ = some (.slice b3 u.fScope.fObjects.length d3) ∧ w'.cell? ⟨b', o' + k * 6 + 4, none⟩ = some (.slice b4 u.fScope.fUses.length d4) ∧ w'.cell? ⟨b', o' + k * 6 + 5, none⟩ = some (.slice b5 n d5)) (by kernel_rfl) ?_ (fun hHeld => ?_)
    · try dsimp only
      exact ⟨Y0.out.cell 0, Y0.out.cell 1, Y0.out.cell 2, Y0.out.cell 3, Y0.out.cell 4, (HN1.out ▸ Y0.out.cell 5), (HN2.out ▸ Q0.out)⟩
    refine wpAnyH_take (i := 0) (oi := { dst := some 20, op := Op.fieldAddr 45 (Operand.tmp 6) 0, type := 0, pos := "l11_store.go:128", after := #[], guard := none }) (v := .pointer (some ⟨y, 0, none⟩)) rfl (by kernel_rfl) (by kernel_rfl) (by kernel_rfl) (fun _ _ _ h => h) (Or.inl ⟨by rfl, ?_⟩) (by assumption) ?_
    · intro wS hSw
      try dsimp only at hSw
      go_simp
    try simp only [Act.put, List.setIfInBounds_toArray, List.set_cons_zero, List.set_cons_succ]
    refine wpAnyH_take (i := 1) (oi := { dst := some 21, op := Op.load 42 (Operand.tmp 20), type := 42, pos := "l11_store.go:128", after := #[{ on := 0, ground := Ground.data }], guard := none }) (v := .agg (scopeC t.fScope a1 a2 a3 a4 c1 c2 c3 c4)) rfl (by kernel_rfl) (by kernel_rfl) (by kernel_rfl) (fun _ _ _ h => h) (Or.inl ⟨by rfl, ?_⟩) (by assumption) ?_
    · intro wS hSw
      try dsimp only at hSw
      go_simp
    try simp only [Act.put, List.setIfInBounds_toArray, List.set_cons_zero, List.set_cons_succ]
    refine wpAnyH_take (i := 2) (oi := { dst := some 22, op := Op.move (Operand.tmp 1), type := 25, pos := "l11_store.go:128", after := #[], guard := none }) (v := .slice (some ⟨b', o', none⟩) l.length c') rfl (by kernel_rfl) (by kernel_rfl) (by kernel_rfl) (fun _ _ _ h => h) (Or.inl ⟨by rfl, ?_⟩) (by assumption) ?_
    · intro wS hSw
      try dsimp only at hSw
      go_simp
    try simp only [Act.put, List.setIfInBounds_toArray, List.set_cons_zero, List.set_cons_succ]
    refine wpAnyH_take (i := 3) (oi := { dst := some 23, op := Op.move (Operand.tmp 5), type := 3, pos := "l11_store.go:128", after := #[], guard := none }) (v := .int .i64 (k : Int)) rfl (by kernel_rfl) (by kernel_rfl) (by kernel_rfl) (fun _ _ _ h => h) (Or.inl ⟨by rfl, ?_⟩) (by assumption) ?_
    · intro wS hSw
      try dsimp only at hSw
      go_simp
    try simp only [Act.put, List.setIfInBounds_toArray, List.set_cons_zero, List.set_cons_succ]
    refine wpAnyH_take (i := 4) (oi := { dst := some 24, op := Op.indexAddr 25 (Operand.tmp 22) (Operand.tmp 23), type := 0, pos := "l11_store.go:128", after := #[{ on := 2, ground := Ground.data }, { on := 3, ground := Ground.data }], guard := none }) (v := .pointer (some ⟨b', o' + k * 6, none⟩)) rfl (by kernel_rfl) (by kernel_rfl) (by kernel_rfl) (fun _ _ _ h => h) (Or.inl ⟨by rfl, ?_⟩) (by assumption) ?_
    · intro wS hSw
      try dsimp only at hSw
      go_simp
    try simp only [Act.put, List.setIfInBounds_toArray, List.set_cons_zero, List.set_cons_succ]
    refine wpAnyH_take (i := 5) (oi := { dst := some 25, op := Op.fieldAddr 45 (Operand.tmp 24) 0, type := 0, pos := "l11_store.go:128", after := #[{ on := 4, ground := Ground.data }], guard := none }) (v := .pointer (some ⟨b', o' + k * 6, none⟩)) rfl (by kernel_rfl) (by kernel_rfl) (by kernel_rfl) (fun _ _ _ h => h) (Or.inl ⟨by rfl, ?_⟩) (by assumption) ?_
    · intro wS hSw
      try dsimp only at hSw
      go_simp
    try simp only [Act.put, List.setIfInBounds_toArray, List.set_cons_zero, List.set_cons_succ]
    refine wpAnyH_take (i := 6) (oi := { dst := some 26, op := Op.load 42 (Operand.tmp 25), type := 42, pos := "l11_store.go:128", after := #[{ on := 5, ground := Ground.data }], guard := none }) (v := .agg (scopeC u.fScope b1 b2 b3 b4 d1 d2 d3 d4)) rfl (by kernel_rfl) (by kernel_rfl) (by kernel_rfl) (fun _ _ _ h => h) (Or.inl ⟨by rfl, ?_⟩) (by assumption) ?_
    · intro wS hSw
      try dsimp only at hSw
      go_simp
    try simp only [Act.put, List.setIfInBounds_toArray, List.set_cons_zero, List.set_cons_succ]
    refine wpAnyH_ready (rs := [7]) (by kernel_rfl) (by simp) ?_
    refine AllReadyH.cons (o := { dst := some 27, op := Op.call { callee := Callee.value (Operand.func 10), args := #[Operand.tmp 21, Operand.tmp 26], argTypes := #[42, 42] }, type := 4, pos := "l11_store.go:128", after := #[{ on := 1, ground := Ground.data }, { on := 6, ground := Ground.data }], guard := none }) rfl (fun K hK => ?_) AllReadyH.nil
    go_simp
    go_at_call 10
    refine (HS.out _ R0.out.scope S0.out.scope).mono ?_
    rw [HQ.out]
    rintro e w1 ⟨rfl, hb1⟩
    have Y1 := Lib.hid (Y0.out.below hb1 Y0.out.lt)
    have Q1 := Lib.hid (Q0.out.below hb1)
    have R1 := Lib.hid (R0.out.below hb1)
    have S1 := Lib.hid (S0.out.below hb1)
    have B1 := Lib.hid (B0.out.trans (hb1.mono B0.out.size))
    clear hb1
    refine hK.out _ _ ?_ (fun hHeld2 => ?_)
    · try dsimp only
      exact ⟨Y1.out.cell 0, Y1.out.cell 1, Y1.out.cell 2, Y1.out.cell 3, Y1.out.cell 4, (HN1.out ▸ Y1.out.cell 5), (HN2.out ▸ Q1.out)⟩
    clear hK K hHeld
    have hHeld := hHeld2
    clear hHeld2
    try simp only [Act.put, List.setIfInBounds_toArray, List.set_cons_zero, List.set_cons_succ]
    refine wpAnyH_take (i := 8) (oi := { dst := some 28, op := Op.unOp UnOp.not 4 (Operand.tmp 27), type := 4, pos := "l11_store.go:128", after := #[{ on := 7, ground := Ground.data }], guard := none }) (v := .bool false) rfl (by kernel_rfl) (by kernel_rfl) (by kernel_rfl) (fun _ _ _ h => h) (Or.inl ⟨by rfl, ?_⟩) (by assumption) ?_
    · intro wS hSw
      try dsimp only at hSw
      go_simp
    try simp only [Act.put, List.setIfInBounds_toArray, List.set_cons_zero, List.set_cons_succ]
    refine wpAnyH_take (i := 9) (oi := { dst := some 29, op := Op.move (Operand.tmp 28), type := 4, pos := "l11_store.go:128", after := #[{ on := 8, ground := Ground.data }, { on := 7, ground := Ground.chain }], guard := none }) (v := .bool false) rfl (by kernel_rfl) (by kernel_rfl) (by kernel_rfl) (fun _ _ _ h => h) (Or.inl ⟨by rfl, ?_⟩) (by assumption) ?_
    · intro wS hSw
      try dsimp only at hSw
      go_simp
    try simp only [Act.put, List.setIfInBounds_toArray, List.set_cons_zero, List.set_cons_succ]
    refine wpAnyH_take (i := 10) (oi := { dst := some 30, op := Op.fieldAddr 45 (Operand.tmp 6) 1, type := 0, pos := "l11_store.go:128", after := #[{ on := 9, ground := Ground.guard }], guard := some (9, false) }) (v := .pointer (some ⟨y, 5, none⟩)) rfl (by kernel_rfl) (by kernel_rfl) (by kernel_rfl) (fun _ _ _ h => h) (Or.inl ⟨by rfl, ?_⟩) (by assumption) ?_
    · intro wS hSw
      try dsimp only at hSw
      go_simp
    try simp only [Act.put, List.setIfInBounds_toArray, List.set_cons_zero, List.set_cons_succ]
    refine wpAnyH_take (i := 11) (oi := { dst := some 31, op := Op.load 43 (Operand.tmp 30), type := 43, pos := "l11_store.go:128", after := #[{ on := 10, ground := Ground.data }, { on := 9, ground := Ground.guard }], guard := some (9, false) }) (v := .slice a5 n c5) rfl (by kernel_rfl) (by kernel_rfl) (by kernel_rfl) (fun _ _ _ h => h) (Or.inl ⟨by rfl, ?_⟩) (by assumption) ?_
    · intro wS hSw
      try dsimp only at hSw
      go_simp
    try simp only [Act.put, List.setIfInBounds_toArray, List.set_cons_zero, List.set_cons_succ]
    refine wpAnyH_take (i := 12) (oi := { dst := some 32, op := Op.call { callee := Callee.builtin Builtin.len, args := #[Operand.tmp 31], argTypes := #[43] }, type := 3, pos := "l11_store.go:128", after := #[{ on := 11, ground := Ground.data }, { on := 9, ground := Ground.guard }], guard := some (9, false) }) (v := .int .i64 (n : Int)) rfl (by kernel_rfl) (by kernel_rfl) (by kernel_rfl) (fun _ _ _ h => h) (Or.inl ⟨by rfl, ?_⟩) (by assumption) ?_
    · intro wS hSw
      try dsimp only at hSw
      go_simp
    try simp only [Act.put, List.setIfInBounds_toArray, List.set_cons_zero, List.set_cons_succ]
    refine wpAnyH_take (i := 13) (oi := { dst := some 33, op := Op.move (Operand.tmp 1), type := 25, pos := "l11_store.go:128", after := #[{ on := 9, ground := Ground.guard }], guard := some (9, false) }) (v := .slice (some ⟨b', o', none⟩) l.length c') rfl (by kernel_rfl) (by kernel_rfl) (by kernel_rfl) (fun _ _ _ h => h) (Or.inl ⟨by rfl, ?_⟩) (by assumption) ?_
    · intro wS hSw
      try dsimp only at hSw
      go_simp
    try simp only [Act.put, List.setIfInBounds_toArray, List.set_cons_zero, List.set_cons_succ]
    refine wpAnyH_take (i := 14) (oi := { dst := some 34, op := Op.move (Operand.tmp 5), type := 3, pos := "l11_store.go:128", after := #[{ on := 9, ground := Ground.guard }], guard := some (9, false) }) (v := .int .i64 (k : Int)) rfl (by kernel_rfl) (by kernel_rfl) (by kernel_rfl) (fun _ _ _ h => h) (Or.inl ⟨by rfl, ?_⟩) (by assumption) ?_
    · intro wS hSw
      try dsimp only at hSw
      go_simp
    try simp only [Act.put, List.setIfInBounds_toArray, List.set_cons_zero, List.set_cons_succ]
    refine wpAnyH_take (i := 15) (oi := { dst := some 35, op := Op.indexAddr 25 (Operand.tmp 33) (Operand.tmp 34), type := 0, pos := "l11_store.go:128", after := #[{ on := 13, ground := Ground.data }, { on := 14, ground := Ground.data }, { on := 9, ground := Ground.guard }], guard := some (9, false) }) (v := .pointer (some ⟨b', o' + k * 6, none⟩)) rfl (by kernel_rfl) (by kernel_rfl) (by kernel_rfl) (fun _ _ _ h => h) (Or.inl ⟨by rfl, ?_⟩) (by assumption) ?_
    · intro wS hSw
      try dsimp only at hSw
      go_simp
    try simp only [Act.put, List.setIfInBounds_toArray, List.set_cons_zero, List.set_cons_succ]
    refine wpAnyH_take (i := 16) (oi := { dst := some 36, op := Op.fieldAddr 45 (Operand.tmp 35) 1, type := 0, pos := "l11_store.go:128", after := #[{ on := 15, ground := Ground.data }, { on := 9, ground := Ground.guard }], guard := some (9, false) }) (v := .pointer (some ⟨b', o' + k * 6 + 5, none⟩)) rfl (by kernel_rfl) (by kernel_rfl) (by kernel_rfl) (fun _ _ _ h => h) (Or.inl ⟨by rfl, ?_⟩) (by assumption) ?_
    · intro wS hSw
      try dsimp only at hSw
      go_simp
    try simp only [Act.put, List.setIfInBounds_toArray, List.set_cons_zero, List.set_cons_succ]
    refine wpAnyH_take (i := 17) (oi := { dst := some 37, op := Op.load 43 (Operand.tmp 36), type := 43, pos := "l11_store.go:128", after := #[{ on := 16, ground := Ground.data }, { on := 9, ground := Ground.guard }], guard := some (9, false) }) (v := .slice b5 n d5) rfl (by kernel_rfl) (by kernel_rfl) (by kernel_rfl) (fun _ _ _ h => h) (Or.inl ⟨by rfl, ?_⟩) (by assumption) ?_
    · intro wS hSw
      try dsimp only at hSw
      go_simp
    try simp only [Act.put, List.setIfInBounds_toArray, List.set_cons_zero, List.set_cons_succ]
    refine wpAnyH_take (i := 18) (oi := { dst := some 38, op := Op.call { callee := Callee.builtin Builtin.len, args := #[Operand.tmp 37], argTypes := #[43] }, type := 3, pos := "l11_store.go:128", after := #[{ on := 17, ground := Ground.data }, { on := 9, ground := Ground.guard }], guard := some (9, false) }) (v := .int .i64 (n : Int)) rfl (by kernel_rfl) (by kernel_rfl) (by kernel_rfl) (fun _ _ _ h => h) (Or.inl ⟨by rfl, ?_⟩) (by assumption) ?_
    · intro wS hSw
      try dsimp only at hSw
      go_simp
    try simp only [Act.put, List.setIfInBounds_toArray, List.set_cons_zero, List.set_cons_succ]
    refine wpAnyH_take (i := 19) (oi := { dst := some 39, op := Op.binOp BinOp.neq 3 (Operand.tmp 32) (Operand.tmp 38) 3, type := 4, pos := "l11_store.go:128", after := #[{ on := 12, ground := Ground.data }, { on := 18, ground := Ground.data }, { on := 9, ground := Ground.guard }], guard := some (9, false) }) (v := .bool false) rfl (by kernel_rfl) (by kernel_rfl) (by kernel_rfl) (fun _ _ _ h => h) (Or.inl ⟨by rfl, ?_⟩) (by assumption) ?_
    · intro wS hSw
      try dsimp only at hSw
      go_simp
    try simp only [Act.put, List.setIfInBounds_toArray, List.set_cons_zero, List.set_cons_succ]
    refine wpAnyH_take (i := 20) (oi := { dst := some 40, op := Op.pick (Operand.tmp 29) (Operand.const (Value.bool true)) (Operand.tmp 39), type := 4, pos := "l11_store.go:128", after := #[{ on := 9, ground := Ground.data }, { on := 19, ground := Ground.data }], guard := none }) (v := .bool false) rfl (by kernel_rfl) (by kernel_rfl) (by kernel_rfl) (fun _ _ _ h => h) (Or.inl ⟨by rfl, ?_⟩) (by assumption) ?_
    · intro wS hSw
      try dsimp only at hSw
      go_simp
    try simp only [Act.put, List.setIfInBounds_toArray, List.set_cons_zero, List.set_cons_succ]
    refine wpAnyH_done (by kernel_rfl) ?_ _
    --SC>
    have cy := Y1.out.cell 5
    simp at cy
    rw [HN1.out] at cy
    go_wp2_with fail
    clear cy
    go_loopw [44] (fun i wr => ∃ j : Nat, i = .int .i64 j ∧ j ≤ n ∧ agreeTo t.fSeen u.fSeen j ∧ Below w1.heap.size w1 wr) (fun i _ => n - (intOf i).toNat)
    case atStart => exact ⟨0, rfl, by omega, agree_zero, Below.refl _ _⟩
    case round =>
      obtain ⟨j, rfl, hj, hto, hbel⟩ := hrel
      have HT2 := Lib.hid hto
      have cy := (Y1.out.below hbel Y1.out.lt).cell 5
      simp at cy
      rw [HN1.out] at cy
      obtain ⟨q0, q1, q2, q3, q4, q5⟩ := Q1.out.below hbel
      rw [HN2.out] at q5
      clear q0 q1 q2 q3 q4 hto
      by_cases hlt2 : j < n
      · have g1 : j < t.fSeen.length := by rw [HN1.out]; exact hlt2
        have g2 : j < u.fSeen.length := by rw [HN2.out]; exact hlt2
        obtain ⟨bs, os, hba, _, e0, e1, e2⟩ := seen_at R1.out.seen g1 hbel
        obtain ⟨bt, ot, hbt, _, f0, f1, f2⟩ := seen_at S1.out.seen g2 hbel
        subst hba hbt
        have Hbd := Lib.hid (fun h => Hx2.out (fun e => absurd (sameB_true e) (by rw [agree_bad g1 g2 h]; decide)))
        have Hnn := Lib.hid (fun h => agree_next g1 g2 HT2.out h)
        have BJ := Lib.hid (B1.out.trans (hbel.mono B1.out.size))
        have HJ := Lib.hid hbel
        have j1 : (0 : Int) ≤ (j : Int) := by omega
        have j2 : (j : Int) < (n : Int) := by omega
        clear hbel
        generalize t.fSeen[j] = x at *
        generalize u.fSeen[j] = z at *
        clear g1 g2
        have heq := eqSeen x.fMod x.fName x.fSum z.fMod z.fName z.fSum
        by_cases he : x = z
        · rw [seen_bool.2 he] at heq
          have Hn := Lib.hid (Hnn.out he)
          clear he
          go_wp2_with fail
          go_quiet (fail)
          go_wp2_with fail
          exact ⟨⟨j + 1, by congr 1, by omega, Hn.out, belowN HJ.out _⟩, by simp [intOf]; omega⟩
        · rw [Bool.eq_false_iff.2 (fun h => he (seen_bool.1 h))] at heq
          have Hv := Lib.hid (Hbd.out he)
          clear he
          go_wp2_with fail
          go_quiet (fail)
          go_wp2_with fail
          go_ret
          exact ⟨by rw [Hv.out]; rfl, belowN BJ.out _⟩
      · have Hn := Lib.hid (Hx1.out (sameB_iff.1 (agree_all (by rw [HN1.out, HN2.out]) (show agreeTo t.fSeen u.fSeen t.fSeen.length by rw [HN1.out, ← show j = n by omega]; exact HT2.out))))
        have BJ := Lib.hid (B1.out.trans (hbel.mono B1.out.size))
        clear hbel
        go_wp2_with fail
        exact ⟨⟨k + 1, by congr 1, by omega, Hn.out, BJ.out⟩, by simp [intOf]; omega⟩
end Go.Proofs.Ytcekjdikoamjjaa
