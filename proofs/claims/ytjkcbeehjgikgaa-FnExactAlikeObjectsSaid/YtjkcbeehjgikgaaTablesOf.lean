
/-
  What is proved: contracts of the program's tablesOf and of the model's l3Same, l4Alike. No condition beside what each theorem states.
-/
import Derived.Test.YtjkcbeehjgikgaaIAlikeObj
import Derived.Test.YtjkcbeehjgikgaaOpenScope
namespace Go.Proofs.Ytjkcbeehjgikgaa
open Go.ChangeShapes Go.WideShapes Go.ChangeAt Go.RowKit Go.Maps Go.WideMaps

theorem sizeTT : (Try.prog.info? 133).map (·.size) = some 3 := by kernel_rfl
set_option maxRecDepth 100000 in
set_option maxHeartbeats 4000000 in
theorem iTablesOf (A B : ScopeD) (a1 a2 a3 a4 b1 b2 b3 b4 : Option Addr) (c1 c2 c3 c4 d1 d2 d3 d4 : Nat) (w : World) :
    Calls Try.prog 114 #[.agg (scopeC A a1 a2 a3 a4 c1 c2 c3 c4), .agg (scopeC B b1 b2 b3 b4 d1 d2 d3 d4)] w fun e w' => e = .returned (.agg #[.slice a2 A.fTypes.length c2, .slice b2 B.fTypes.length d2, .map (some (w.heap.size + 1 + 1 + 1))]) ∧ MapIn A.fTypes B.fTypes w' (w.heap.size + 1 + 1 + 1) ∧ Below w.heap.size w w' := by
  have hmm := @run_makeMap Try.prog
  have hM := MapIn.made A.fTypes B.fTypes (((w.alloc (.cells (scopeC A a1 a2 a3 a4 c1 c2 c3 c4) 66)).alloc (.cells (scopeC B b1 b2 b3 b4 d1 d2 d3 d4) 66)).alloc (.cells #[.slice a2 A.fTypes.length c2, .slice b2 B.fTypes.length d2, .map (some (w.heap.size + 1 + 1 + 1))] 133))
  have HM := Lib.hid hM
  clear hM
  go_enter Try.func114, Try.ntmps114
  go_wp2_with fail
  refine bodyPost_ret (results_one rfl Try.underlying133 rfl _ _ (w.heap.size + 1 + 1) #[.slice a2 A.fTypes.length c2, .slice b2 B.fTypes.length d2, .map (some (w.heap.size + 1 + 1 + 1))] rfl 133 ((Box.new' _ _ _ (by simp)).alloc _) 3 sizeTT rfl) rfl ?_
  exact ⟨rfl, by have h := HM.out; simpa using h, ((((Below.refl w.heap.size w).alloc (Nat.le_refl _) _).alloc (by simp) _).alloc (by simp; omega) _).alloc (by simp; omega) _⟩

open Classical in
noncomputable def simNB (A B : List TypeD) (x y : Int) : Bool := decide (simN A B x y)
theorem simNB_true {A B : List TypeD} {x y : Int} (h : simN A B x y) : simNB A B x y = true := by unfold simNB; simpa using h
theorem simNB_false {A B : List TypeD} {x y : Int} (h : ¬ simN A B x y) : simNB A B x y = false := by unfold simNB; simpa using h
set_option maxHeartbeats 2000000 in
theorem sl3SameN (A B : List TypeD) (hA : near A) (hB : near B) (a b : Option Addr) (ca cb : Nat) (x y : Int) (w : World) (hx : tabN A x) (hy : tabN B y) (hra : Rows typeS Any w a A) (hrb : Rows typeS Any w b B) :
    Calls Try.prog 159 #[.slice a A.length ca, .int .i64 x, .slice b B.length cb, .int .i64 y] w fun e w' => e = .returned (.bool (simNB A B x y)) ∧ Below w.heap.size w w' := by
  obtain ⟨hx1, hx2⟩ := hx
  obtain ⟨hy1, hy2⟩ := hy
  by_cases hn : x < 0 ∨ y < 0
  · have Hn := Lib.hid hn
    have Hv := Lib.hid (show simNB A B x y = decide (x < 0 ∧ y < 0) by
      by_cases h : x < 0 ∧ y < 0
      · rw [decide_eq_true h, simNB_true (.inl h)]
      · rw [decide_eq_false h, simNB_false (fun g => g.elim h (fun g => g.1 hn))])
    have HB := Lib.hid ((Below.refl w.heap.size w).alloc (Nat.le_refl _) (.cells (boxS A B a b ca cb (.slice none 0 0)) 196))
    clear hn hra hrb
    go_enter Try.func159, Try.ntmps159
    go_wp2_with fail
    refine (sSame_out _ x y _ Hn.out).mono ?_
    rintro e w1 ⟨rfl, rfl⟩
    go_wp2_with fail
    go_ret
    exact ⟨by rw [Hv.out, Bool.decide_and]; rfl, HB.out⟩
  · have he : simNB A B x y = simB A B x y := by
      by_cases h : Sim A B x y
      · rw [simB_true h, simNB_true (.inr ⟨hn, h⟩)]
      · rw [simB_false h, simNB_false (fun g => g.elim (fun g => hn (.inl g.1)) (fun g => h g.2))]
    rw [he]
    exact sl3Same A B hA hB a b ca cb x y w ⟨⟨by omega, hx2⟩, by omega, hy2⟩ hra hrb

open Classical in
noncomputable def alikeB (A B : List TypeD) (o p : ObjectD) : Bool := decide (alikeO A B o p)
theorem alikeB_true {A B : List TypeD} {o p : ObjectD} (h : alikeO A B o p) : alikeB A B o p = true := by unfold alikeB; simpa using h
theorem alikeB_false {A B : List TypeD} {o p : ObjectD} (h : ¬ alikeO A B o p) : alikeB A B o p = false := by unfold alikeB; simpa using h

set_option maxRecDepth 100000 in
set_option maxHeartbeats 16000000 in
theorem sl4Alike (A B : ScopeD) (hA : near A.fTypes) (hB : near B.fTypes) (a1 a2 a3 a4 b1 b2 b3 b4 : Option Addr) (c1 c2 c3 c4 d1 d2 d3 d4 : Nat) (o p : ObjectD) (oa pa : Option Addr) (oc pc : Nat) (w : World) (hol : o.fParams.length ≤ 1048576) (ho : objT A.fTypes o) (hp : objT B.fTypes p) (hra : Rows typeS Any w a2 A.fTypes) (hrb : Rows typeS Any w b2 B.fTypes) (hro : Rows paramS Any w oa o.fParams) (hrp : Rows paramS Any w pa p.fParams) :
    Calls Try.prog 113 #[.agg (scopeC A a1 a2 a3 a4 c1 c2 c3 c4), .agg #[.string o.fName, .int .i64 o.fKind, .int .i64 o.fMark, .int .i64 o.fType, .int .i64 o.fValue, .slice oa o.fParams.length oc], .agg (scopeC B b1 b2 b3 b4 d1 d2 d3 d4), .agg #[.string p.fName, .int .i64 p.fKind, .int .i64 p.fMark, .int .i64 p.fType, .int .i64 p.fValue, .slice pa p.fParams.length pc]] w fun e w' => e = .returned (.bool (alikeB A.fTypes B.fTypes o p)) ∧ Below w.heap.size w w' := by
  have hb0 := (((((Below.refl w.heap.size w).alloc (Nat.le_refl _) (.cells (scopeC A a1 a2 a3 a4 c1 c2 c3 c4) 66)).alloc (by simp) (.cells #[.string o.fName, .int .i64 o.fKind, .int .i64 o.fMark, .int .i64 o.fType, .int .i64 o.fValue, .slice oa o.fParams.length oc] 125)).alloc (by simp; omega) (.cells (scopeC B b1 b2 b3 b4 d1 d2 d3 d4) 66)).alloc (by simp; omega) (.cells #[.string p.fName, .int .i64 p.fKind, .int .i64 p.fMark, .int .i64 p.fType, .int .i64 p.fValue, .slice pa p.fParams.length pc] 125))
  have HB := Lib.hid hb0
  have Ra := Lib.hid (hra.below hb0)
  have Rb := Lib.hid (hrb.below hb0)
  have Ro := Lib.hid (hro.below hb0)
  have Rp := Lib.hid (hrp.below hb0)
  have HX := Lib.hid ((((Box.new w 66 (scopeC A a1 a2 a3 a4 c1 c2 c3 c4)).alloc (.cells #[.string o.fName, .int .i64 o.fKind, .int .i64 o.fMark, .int .i64 o.fType, .int .i64 o.fValue, .slice oa o.fParams.length oc] 125)).alloc (.cells (scopeC B b1 b2 b3 b4 d1 d2 d3 d4) 66)).alloc (.cells #[.string p.fName, .int .i64 p.fKind, .int .i64 p.fMark, .int .i64 p.fType, .int .i64 p.fValue, .slice pa p.fParams.length pc] 125))
  have HY := Lib.hid (((Box.new' (w.alloc (.cells (scopeC A a1 a2 a3 a4 c1 c2 c3 c4) 66)) 125 #[.string o.fName, .int .i64 o.fKind, .int .i64 o.fMark, .int .i64 o.fType, .int .i64 o.fValue, .slice oa o.fParams.length oc] (g := w.heap.size + 1) (by simp)).alloc (.cells (scopeC B b1 b2 b3 b4 d1 d2 d3 d4) 66)).alloc (.cells #[.string p.fName, .int .i64 p.fKind, .int .i64 p.fMark, .int .i64 p.fType, .int .i64 p.fValue, .slice pa p.fParams.length pc] 125))
  have HZ := Lib.hid ((Box.new' ((w.alloc (.cells (scopeC A a1 a2 a3 a4 c1 c2 c3 c4) 66)).alloc (.cells #[.string o.fName, .int .i64 o.fKind, .int .i64 o.fMark, .int .i64 o.fType, .int .i64 o.fValue, .slice oa o.fParams.length oc] 125)) 66 (scopeC B b1 b2 b3 b4 d1 d2 d3 d4) (g := w.heap.size + 1 + 1) (by simp)).alloc (.cells #[.string p.fName, .int .i64 p.fKind, .int .i64 p.fMark, .int .i64 p.fType, .int .i64 p.fValue, .slice pa p.fParams.length pc] 125))
  have HV := Lib.hid (Box.new' (((w.alloc (.cells (scopeC A a1 a2 a3 a4 c1 c2 c3 c4) 66)).alloc (.cells #[.string o.fName, .int .i64 o.fKind, .int .i64 o.fMark, .int .i64 o.fType, .int .i64 o.fValue, .slice oa o.fParams.length oc] 125)).alloc (.cells (scopeC B b1 b2 b3 b4 d1 d2 d3 d4) 66)) 125 #[.string p.fName, .int .i64 p.fKind, .int .i64 p.fMark, .int .i64 p.fType, .int .i64 p.fValue, .slice pa p.fParams.length pc] (g := w.heap.size + 1 + 1 + 1) (by simp))
  have Ho := Lib.hid ho
  have Hp := Lib.hid hp
  clear hb0 hra hrb hro hrp ho hp
  obtain ⟨o0, o1, o2, o3, o4, o5⟩ := o
  obtain ⟨p0, p1, p2, p3, p4, p5⟩ := p
  simp only at *
  by_cases q0 : o0 = p0
  case neg =>
    have Hv := Lib.hid (alikeB_false (A := A.fTypes) (B := B.fTypes) (o := (⟨o0, o1, o2, o3, o4, o5⟩ : ObjectD)) (p := (⟨p0, p1, p2, p3, p4, p5⟩ : ObjectD)) (fun h => q0 h.1.1))
    have g := bytes_same o0 p0 false (by simp [q0])
    clear q0
    go_enter Try.func113, Try.ntmps113
    go_wp2_with fail
    go_ret
    exact ⟨by rw [Hv.out]; rfl, HB.out⟩
  subst q0
  by_cases q1 : o1 = p1
  case neg =>
    have Hv := Lib.hid (alikeB_false (A := A.fTypes) (B := B.fTypes) (o := (⟨o0, o1, o2, o3, o4, o5⟩ : ObjectD)) (p := (⟨o0, p1, p2, p3, p4, p5⟩ : ObjectD)) (fun h => q1 h.1.2.2.1))
    have g : (o1 == p1) = false := beq_eq_false_iff_ne.2 q1
    go_enter Try.func113, Try.ntmps113
    go_wp2_with fail
    go_ret
    exact ⟨by rw [Hv.out]; rfl, HB.out⟩
  subst q1
  by_cases q2 : o2 = p2
  case neg =>
    have Hv := Lib.hid (alikeB_false (A := A.fTypes) (B := B.fTypes) (o := (⟨o0, o1, o2, o3, o4, o5⟩ : ObjectD)) (p := (⟨o0, o1, p2, p3, p4, p5⟩ : ObjectD)) (fun h => q2 h.1.2.1))
    have g : (o2 == p2) = false := beq_eq_false_iff_ne.2 q2
    go_enter Try.func113, Try.ntmps113
    go_wp2_with fail
    go_ret
    exact ⟨by rw [Hv.out]; rfl, HB.out⟩
  subst q2
  by_cases q3 : o4 = p4
  case neg =>
    have Hv := Lib.hid (alikeB_false (A := A.fTypes) (B := B.fTypes) (o := (⟨o0, o1, o2, o3, o4, o5⟩ : ObjectD)) (p := (⟨o0, o1, o2, p3, p4, p5⟩ : ObjectD)) (fun h => q3 h.1.2.2.2.1))
    have g : (o4 == p4) = false := beq_eq_false_iff_ne.2 q3
    go_enter Try.func113, Try.ntmps113
    go_wp2_with fail
    go_ret
    exact ⟨by rw [Hv.out]; rfl, HB.out⟩
  subst q3
  by_cases q4 : o5.length = p5.length
  case neg =>
    have Hv := Lib.hid (alikeB_false (A := A.fTypes) (B := B.fTypes) (o := (⟨o0, o1, o2, o3, o4, o5⟩ : ObjectD)) (p := (⟨o0, o1, o2, p3, o4, p5⟩ : ObjectD)) (fun h => q4 h.1.2.2.2.2))
    have g : ¬ (o5.length : Int) = (p5.length : Int) := by omega
    go_enter Try.func113, Try.ntmps113
    go_wp2_with fail
    go_ret
    exact ⟨by rw [Hv.out]; rfl, HB.out⟩
  have PL := Lib.hid q4
  rw [← q4] at HB Ra Rb Ro Rp HX HY HZ HV ⊢
  have Hl3 := Lib.hid (sl3SameN A.fTypes B.fTypes hA hB a2 b2 c2 d2 o3 p3 _ Ho.out.1 Hp.out.1 Ra.out Rb.out)
  have Hal := Lib.hid (show simN A.fTypes B.fTypes o3 p3 → parTo A.fTypes B.fTypes o5 p5 o5.length → alikeB A.fTypes B.fTypes (⟨o0, o1, o2, o3, o4, o5⟩ : ObjectD) (⟨o0, o1, o2, p3, o4, p5⟩ : ObjectD) = true from fun h1 h2 => alikeB_true ⟨⟨rfl, rfl, rfl, rfl, PL.out⟩, h1, h2⟩)
  clear q4
  go_enter Try.func113, Try.ntmps113
  go_wp2_with fail
  refine Hl3.out.mono ?_
  rintro e w1 ⟨rfl, hb1⟩
  have B1 := Lib.hid hb1
  clear hb1 Hl3
  by_cases r0 : simN A.fTypes B.fTypes o3 p3
  case neg =>
    have Hv := Lib.hid (alikeB_false (A := A.fTypes) (B := B.fTypes) (o := (⟨o0, o1, o2, o3, o4, o5⟩ : ObjectD)) (p := (⟨o0, o1, o2, p3, o4, p5⟩ : ObjectD)) (fun h => r0 h.2.1))
    rw [simNB_false r0]
    clear r0
    go_wp2_with fail
    go_ret
    exact ⟨by rw [Hv.out]; rfl, HB.out.trans (B1.out.mono HB.out.size)⟩
  rw [simNB_true r0]
  have R0 := Lib.hid r0
  clear r0
  have y5 := (HY.out.below B1.out HY.out.lt).cell 5
  simp at y5
  go_wp2_with fail
  clear y5
  go_loopw [62] (fun i wr => ∃ k : Nat, i = .int .i64 k ∧ k ≤ o5.length ∧ parTo A.fTypes B.fTypes o5 p5 k ∧ Below ((((w.alloc (.cells (scopeC A a1 a2 a3 a4 c1 c2 c3 c4) 66)).alloc (.cells #[.string o0, .int .i64 o1, .int .i64 o2, .int .i64 o3, .int .i64 o4, .slice oa o5.length oc] 125)).alloc (.cells (scopeC B b1 b2 b3 b4 d1 d2 d3 d4) 66)).alloc (.cells #[.string o0, .int .i64 o1, .int .i64 o2, .int .i64 p3, .int .i64 o4, .slice pa o5.length pc] 125)).heap.size ((((w.alloc (.cells (scopeC A a1 a2 a3 a4 c1 c2 c3 c4) 66)).alloc (.cells #[.string o0, .int .i64 o1, .int .i64 o2, .int .i64 o3, .int .i64 o4, .slice oa o5.length oc] 125)).alloc (.cells (scopeC B b1 b2 b3 b4 d1 d2 d3 d4) 66)).alloc (.cells #[.string o0, .int .i64 o1, .int .i64 o2, .int .i64 p3, .int .i64 o4, .slice pa o5.length pc] 125)) wr) (fun i _ => o5.length - (intOf i).toNat)
  case atStart => exact ⟨0, rfl, by omega, parTo_zero, B1.out⟩
  case round =>
    obtain ⟨k, rfl, hk, hto, hbel⟩ := hrel
    have Hto := Lib.hid hto
    clear hto
    by_cases hlt : k < o5.length
    · have hlt' : k < p5.length := by rw [← PL.out]; exact hlt
      obtain ⟨b1', o1', cs, hba, _, hb1, hc1, hat⟩ := (Ro.out.below hbel) k hlt
      obtain ⟨b2', o2', cs', hba', _, hb2, hc2, hat'⟩ := (Rp.out.below hbel) k hlt'
      obtain rfl : cs = [.string o5[k].fName, .bool o5[k].fByVar, .int .i64 o5[k].fType] := hat
      obtain rfl : cs' = [.string p5[k].fName, .bool p5[k].fByVar, .int .i64 p5[k].fType] := hat'
      subst hba
      subst hba'
      have hbA := (Below.refl wr.heap.size wr).alloc (Nat.le_refl _) (.cells (parQ o5[k]) 177)
      have hbB := hbA.alloc hbA.size (.cells (parQ p5[k]) 177)
      have hn : paramS.n = 3 := rfl
      have e0 := hc1 0 (by decide)
      have e1 := hc1 1 (by decide)
      have e2 := hc1 2 (by decide)
      have z0 := (hbA.cell (p := ⟨b2', o2' + k * 3 + 0, none⟩) hb2).trans (hc2 0 (by decide))
      have z1 := (hbA.cell (p := ⟨b2', o2' + k * 3 + 1, none⟩) hb2).trans (hc2 1 (by decide))
      have z2 := (hbA.cell (p := ⟨b2', o2' + k * 3 + 2, none⟩) hb2).trans (hc2 2 (by decide))
      have hX := HX.out.below hbel HX.out.lt
      have hZ := HZ.out.below hbel HZ.out.lt
      have hV := HV.out.below hbel HV.out.lt
      simp only [hn, Nat.add_zero, List.getElem?_cons_zero, List.getElem?_cons_succ] at e0 e1 e2 z0 z1 z2
      have v5 : (wr.alloc (.cells (parQ o5[k]) 177)).cell? ⟨w.heap.size + 1 + 1 + 1, 5, none⟩ = some (.slice (some ⟨b2', o2', none⟩) o5.length pc) := (hV.below hbA hV.lt).cell 5
      have x2 : ((wr.alloc (.cells (parQ o5[k]) 177)).alloc (.cells (parQ p5[k]) 177)).cell? ⟨w.heap.size, 2, none⟩ = some (.slice a2 A.fTypes.length c2) := (hX.below hbB hX.lt).cell 2
      have x3 : ((wr.alloc (.cells (parQ o5[k]) 177)).alloc (.cells (parQ p5[k]) 177)).cell? ⟨w.heap.size + 1 + 1, 2, none⟩ = some (.slice b2 B.fTypes.length d2) := (hZ.below hbB hZ.lt).cell 2
      have lx := hX.lt
      have lz := hZ.lt
      have lv := hV.lt
      have i1 : (0 : Int) ≤ (k : Int) := by omega
      have i2 : (k : Int) < (o5.length : Int) := by omega
      have Hbad := Lib.hid (fun h => alikeB_false (alikeO_bad (A := A.fTypes) (B := B.fTypes) (o := (⟨o0, o1, o2, o3, o4, o5⟩ : ObjectD)) (p := (⟨o0, o1, o2, p3, o4, p5⟩ : ObjectD)) hlt hlt' h))
      have Hnx := Lib.hid (fun h => parTo_next hlt hlt' Hto.out h)
      have Htt := Lib.hid (Ho.out.2 _ (List.getElem_mem hlt))
      have Htu := Lib.hid (Hp.out.2 _ (List.getElem_mem hlt'))
      have B2 := Lib.hid (hbel.trans (hbB.mono hbel.size))
      have Ra2 := Lib.hid ((Ra.out.below hbel).below hbB)
      have Rb2 := Lib.hid ((Rb.out.below hbel).below hbB)
      clear hX hZ hV hbA hbB hc1 hc2 hn hbel
      generalize o5[k] = t at *
      generalize p5[k] = u at *
      clear hlt'
      obtain ⟨tn, tb, tt⟩ := t
      obtain ⟨un, ub, ut⟩ := u
      simp only at *
      by_cases n1 : tn = un
      case neg =>
        have Hv := Lib.hid (Hbad.out (fun h => n1 h.1))
        have hb := bytes_same tn un false (by simp [n1])
        clear n1
        go_wp2_with fail
        go_ret
        exact ⟨by rw [Hv.out]; rfl, HB.out.trans (B2.out.mono HB.out.size)⟩
      by_cases n2 : tb = ub
      case neg =>
        have Hv := Lib.hid (Hbad.out (fun h => n2 h.2.1))
        have hb := bytes_same tn un true (by simp [n1])
        have hbb : (tb != ub) = true := by simpa using n2
        clear n1
        go_wp2_with fail
        go_ret
        exact ⟨by rw [Hv.out]; rfl, HB.out.trans (B2.out.mono HB.out.size)⟩
      have hb := bytes_same tn un true (by simp [n1])
      have N1 := Lib.hid n1
      clear n1
      subst n2
      have Hl3 := Lib.hid (sl3Same A.fTypes B.fTypes hA hB a2 b2 c2 d2 tt ut _ ⟨Htt.out, Htu.out⟩ Ra2.out Rb2.out)
      go_wp2_with fail
      refine Hl3.out.mono ?_
      rintro e w5 ⟨rfl, hb5⟩
      have B5 := Lib.hid (B2.out.trans (hb5.mono B2.out.size))
      clear hb5 Hl3
      by_cases r1 : Sim A.fTypes B.fTypes tt ut
      · rw [simB_true r1]
        have Hn := Lib.hid (Hnx.out ⟨N1.out, by simp, r1⟩)
        clear r1
        go_wp2_with fail
        go_round
        case rel => exact ⟨k + 1, by go_num, by omega, Hn.out, B5.out⟩
        case measure => simp [intOf]; omega
      · rw [simB_false r1]
        have Hv := Lib.hid (Hbad.out (fun h => r1 h.2.2))
        clear r1
        go_wp2_with fail
        go_ret
        exact ⟨by rw [Hv.out]; rfl, HB.out.trans (B5.out.mono HB.out.size)⟩
    · have Hv := Lib.hid (Hal.out R0.out (by rw [← show k = o5.length by omega]; exact Hto.out))
      have Hbel := Lib.hid hbel
      clear hbel
      go_wp2_with fail
      go_ret
      exact ⟨by rw [Hv.out]; rfl, HB.out.trans (Hbel.out.mono HB.out.size)⟩
end Go.Proofs.Ytjkcbeehjgikgaa
