
/-
  What is proved: contracts of the model's l4Params, l4Object, l4At; a contract of the model's l4Object. No condition beside what each theorem states.
-/
import Derived.Test.YtllddjmcemcdhaaGreatIObjects
import Derived.Test.YtllddjmcemcdhaaGreatAt
namespace Go.Proofs.YtllddjmcemcdhaaGreat
open Go.ChangeShapes Go.WideShapes Go.ChangeAt Go.RowKit

theorem sIn (n a b : Int) (w : World) : Calls Tryz.prog 17 #[.int .i64 n, .int .i64 a, .int .i64 b] w fun e w' => e = .returned (.bool (decide (a ≤ n ∧ n ≤ b))) ∧ w = w' := by
  by_cases h : a ≤ n ∧ n ≤ b
  · rw [decide_eq_true h]; exact sIn_yes n a b w h.1 h.2
  · rw [decide_eq_false h]; exact sIn_no n a b w (by omega)

def parOk (n : Nat) (p : ParamD) : Prop := nameP p.fName ∧ parTyped n p
/-- Params up to place k. -/
def paramsTo (n : Nat) (ps : List ParamD) (k : Nat) : Prop := (∀ i (hi : i < ps.length), i < k → parOk n ps[i]) ∧ ∀ i j (hi : i < ps.length) (hj : j < ps.length), i < j → j < k → ps[i].fName ≠ ps[j].fName
theorem paramsTo_zero {n : Nat} {ps : List ParamD} : paramsTo n ps 0 := ⟨fun _ _ h => absurd h (by omega), fun _ _ _ _ _ h => absurd h (by omega)⟩
theorem paramsTo_next {n : Nat} {ps : List ParamD} {k : Nat} (hk : k < ps.length) (h : paramsTo n ps k) (h1 : parOk n ps[k]) (h2 : ∀ i (hi : i < ps.length), i < k → ps[i].fName ≠ ps[k].fName) : paramsTo n ps (k + 1) :=
  ⟨fun i hi hik => by
    by_cases e : i = k
    · subst e; exact h1
    · exact h.1 i hi (by omega), fun i j hi hj hij hjk => by
    by_cases e : j = k
    · subst e; exact h2 i hi hij
    · exact h.2 i j hi hj hij (by omega)⟩
theorem params_of {n : Nat} {ps : List ParamD} (h4 : ps.length ≤ 4) (h : paramsTo n ps ps.length) : paramsOk n ps :=
  ⟨h4, typed_all (fun i hi _ => (h.1 i hi hi).2), fun i hi _ => by
    have hi' : i < ps.length := by simpa using hi
    simpa using (h.1 i hi' hi').1, fun i j hi hj hij _ => by
    have hi' : i < ps.length := by simpa using hi
    have hj' : j < ps.length := by simpa using hj
    simpa using h.2 i j hi' hj' hij hj'⟩
theorem params_bad {n : Nat} {ps : List ParamD} {k : Nat} (hk : k < ps.length) (h : ¬ parOk n ps[k]) : ¬ paramsOk n ps := fun g => h ⟨by
    have := g.2.2.1 k (by simpa using hk) (by simpa using hk)
    simpa using this, g.2.1 _ (List.getElem_mem hk)⟩
theorem params_twice {n : Nat} {ps : List ParamD} {i k : Nat} (hik : i < k) (hk : k < ps.length) (he : (ps[i]'(by omega)).fName = ps[k].fName) : ¬ paramsOk n ps := fun g => by
  have := g.2.2.2 i k (by simp; omega) (by simpa using hk) hik (by simpa using hk)
  simp at this
  exact this he
theorem param_at {w w' : World} {a : Option Addr} {l : List ParamD} {k : Nat} (hr : Rows paramS Any w a l) (hk : k < l.length) (hb : Below w.heap.size w w') : ∃ b o, a = some ⟨b, o, none⟩ ∧ b < w.heap.size ∧ w'.cell? ⟨b, o + k * 3, none⟩ = some (.string l[k].fName) ∧ w'.cell? ⟨b, o + k * 3 + 1, none⟩ = some (.bool l[k].fByVar) ∧ w'.cell? ⟨b, o + k * 3 + 2, none⟩ = some (.int .i64 l[k].fType) := by
  obtain ⟨b, o, cs, rfl, _, hb1, hc1, hat⟩ := hr k hk
  obtain rfl : cs = [.string l[k].fName, .bool l[k].fByVar, .int .i64 l[k].fType] := hat
  have e0 := (hb.cell (p := ⟨b, o + k * 3 + 0, none⟩) hb1).trans (hc1 0 (by decide))
  have e1 := (hb.cell (p := ⟨b, o + k * 3 + 1, none⟩) hb1).trans (hc1 1 (by decide))
  have e2 := (hb.cell (p := ⟨b, o + k * 3 + 2, none⟩) hb1).trans (hc1 2 (by decide))
  simp at e0 e1 e2
  exact ⟨b, o, rfl, hb1, e0, e1, e2⟩
abbrev parC (t : ParamD) : Array Value := #[.string t.fName, .bool t.fByVar, .int .i64 t.fType]

set_option maxRecDepth 100000 in
set_option maxHeartbeats 8000000 in
theorem sl4Params (a pa : Option Addr) (c pc n : Nat) (ps : List ParamD) (w : World) (hn : n ≤ 1048576) (hl : ps.length ≤ 1048576) (hpc : ps.length ≤ pc) (hs : ∀ p ∈ ps, p.fName.size ≤ maxLen) (hr : Rows paramS Any w pa ps) :
    Calls Tryz.prog 65 #[.slice a n c, .slice pa ps.length pc] w fun e w' => e = .returned (.bool (paramsB n ps)) ∧ Below w.heap.size w w' := by
  have Hr := Lib.hid hr
  have Hs := Lib.hid hs
  clear hr hs
  go_enter Tryz.func65, Tryz.ntmps65
  go_wp2_with fail
  go_loopw [11] (fun i wr => ∃ k : Nat, i = .int .i64 k ∧ k ≤ ps.length ∧ paramsTo n ps k ∧ Below w.heap.size w wr) (fun i _ => ps.length - (intOf i).toNat)
  case atStart => exact ⟨0, rfl, by omega, paramsTo_zero, Below.refl _ _⟩
  case round =>
    obtain ⟨k, rfl, hk, hto, hbel⟩ := hrel
    have Hto := Lib.hid hto
    clear hto
    obtain ⟨wo, hwo⟩ : ∃ x, x = wr := ⟨_, rfl⟩
    subst hwo
    by_cases hlt : k < ps.length
    · obtain ⟨b, o, hpa, hb1, e0, e1, e2⟩ := param_at Hr.out hlt hbel
      subst hpa
      have Hbad := Lib.hid (fun h => paramsB_false (params_bad (n := n) hlt h))
      have Htw := Lib.hid (fun i (hik : i < k) h => paramsB_false (params_twice (n := n) hik hlt h))
      have Hnx := Lib.hid (paramsTo_next (n := n) hlt Hto.out)
      have hsz := Hs.out ps[k] (List.getElem_mem hlt)
      have Y0 := Lib.hid (Box.new wo 106 (parC ps[k]))
      have Hbel := Lib.hid (hbel.alloc hbel.size (.cells (parC ps[k]) 106))
      have hwz := hbel.size
      clear hbel
      generalize hfk : ps[k] = f at *
      have Hfk := Lib.hid hfk
      clear hfk
      by_cases hnn : nameP f.fName
      · have hq := nameB_true hnn
        have Hnn := Lib.hid hnn
        clear hnn
        by_cases hty : 0 ≤ f.fType ∧ f.fType ≤ (n : Int) - 1
        · have hd := decide_eq_true hty
          have Hok := Lib.hid (show parOk n f from ⟨Hnn.out, hty.1, by omega⟩)
          clear hty
          go_wp2_with (first | (go_at_call 39; refine (sl1Name _ _ hsz).mono ?_; rw [hq]; rintro e w' ⟨rfl, rfl⟩) | (go_at_call 17; refine (sIn _ _ _ _).mono ?_; rw [hd]; rintro e w' ⟨rfl, rfl⟩))
          go_loopw [33] (fun i wr => ∃ q : Nat, i = .int .i64 q ∧ q ≤ k ∧ (∀ i (hi : i < ps.length), i < q → ps[i].fName ≠ f.fName) ∧ Below (wo.alloc (.cells (parC f) 106)).heap.size (wo.alloc (.cells (parC f) 106)) wr) (fun i _ => k - (intOf i).toNat)
          case atStart => exact ⟨0, rfl, by omega, fun _ _ h => absurd h (by omega), Below.refl _ _⟩
          case round =>
            obtain ⟨q, rfl, hqk, hno, hbj⟩ := hrel
            have Hno := Lib.hid hno
            have hB := Y0.out.below hbj (by simp)
            have y0 := hB.cell 0
            have l1 := hB.lt
            simp at y0
            have Bj := Lib.hid (Hbel.out.trans (hbj.mono Hbel.out.size))
            have Hbj := Lib.hid hbj
            clear hno hB hbj
            by_cases hqlt : q < k
            · have hql : q < ps.length := by omega
              obtain ⟨b', o', hbo, hb1', g0, g1, g2⟩ := param_at Hr.out hql Bj.out
              injection hbo with hbo
              injection hbo with hbo1 hbo2
              subst hbo1
              subst hbo2
              have Hsame := Lib.hid (fun (h : ps[q].fName = f.fName) => Htw.out q hqlt h)
              have Hno2 := Lib.hid (show ∀ (h : ps[q].fName ≠ f.fName), ∀ i (hi : i < ps.length), i < q + 1 → ps[i].fName ≠ f.fName from fun h i hi hiq => by
                by_cases e : i = q
                · subst e; exact h
                · exact Hno.out i hi (by omega))
              have l2 : wo.heap.size ≠ wr.heap.size := by omega
              have Bj2 := Lib.hid (Bj.out.alloc Bj.out.size (.cells (parC ps[q]) 106))
              have Hbj2 := Lib.hid (Hbj.out.alloc Hbj.out.size (.cells (parC ps[q]) 106))
              generalize ps[q] = g at *
              by_cases hsm : g.fName = f.fName
              · have Hv := Lib.hid (Hsame.out hsm)
                have hb := bytes_same f.fName g.fName true (by simp [hsm])
                clear hsm
                go_wp2_with fail
                go_ret
                exact ⟨by rw [Hv.out]; rfl, Bj2.out⟩
              · have Hn := Lib.hid (Hno2.out hsm)
                have hb := bytes_same f.fName g.fName false (by simp [Ne.symm hsm])
                clear hsm
                go_wp2_with fail
                exact ⟨⟨q + 1, by congr 1, by omega, Hn.out, Hbj2.out⟩, by simp [intOf]; omega⟩
            · obtain rfl : q = k := by omega
              have Hn := Lib.hid (Hnx.out Hok.out Hno.out)
              go_wp2_with fail
              exact ⟨⟨q + 1, by congr 1, by omega, Hn.out, Bj.out⟩, by simp [intOf]; omega⟩
        · have hd := decide_eq_false hty
          have Hv := Lib.hid (Hbad.out (fun h => hty ⟨h.2.1, by have := h.2.2; omega⟩))
          clear hty
          go_wp2_with (first | (go_at_call 39; refine (sl1Name _ _ hsz).mono ?_; rw [hq]; rintro e w' ⟨rfl, rfl⟩) | (go_at_call 17; refine (sIn _ _ _ _).mono ?_; rw [hd]; rintro e w' ⟨rfl, rfl⟩))
          go_ret
          exact ⟨by rw [Hv.out]; rfl, Hbel.out⟩
      · have hq := nameB_false hnn
        have Hv := Lib.hid (Hbad.out (fun h => hnn h.1))
        clear hnn
        go_wp2_with (go_at_call 39; refine (sl1Name _ _ hsz).mono ?_; rw [hq]; rintro e w' ⟨rfl, rfl⟩)
        go_ret
        exact ⟨by rw [Hv.out]; rfl, Hbel.out⟩
    · obtain rfl : k = ps.length := by omega
      have Hbel := Lib.hid hbel
      clear hbel
      by_cases h4 : ps.length ≤ 4
      · have Ht := Lib.hid (paramsB_true (params_of h4 Hto.out))
        have d : decide ((ps.length : Int) ≤ 4) = true := decide_eq_true (by omega)
        go_wp2_with fail
        go_ret
        exact ⟨by rw [Ht.out]; rfl, Hbel.out⟩
      · have Ht := Lib.hid (paramsB_false (n := n) (ps := ps) (fun h => h4 h.1))
        have d : decide ((ps.length : Int) ≤ 4) = false := decide_eq_false (by omega)
        go_wp2_with fail
        go_ret
        exact ⟨by rw [Ht.out]; rfl, Hbel.out⟩

/-- The first object of a name. -/
def isAt (os : List ObjectD) (nm : ByteArray) (r : Int) : Prop := (r = -1 ∧ ∀ i (hi : i < os.length), os[i].fName ≠ nm) ∨ ∃ k : Nat, r = k ∧ ∃ h : k < os.length, os[k].fName = nm ∧ ∀ i (hi : i < os.length), i < k → os[i].fName ≠ nm
theorem isAt.eq {os : List ObjectD} {nm : ByteArray} {r r' : Int} (h : isAt os nm r) (h' : isAt os nm r') : r = r' := by
  rcases h with ⟨rfl, h⟩ | ⟨k, rfl, hk, he, h⟩ <;> rcases h' with ⟨rfl, h'⟩ | ⟨k', rfl, hk', he', h'⟩
  · rfl
  · exact absurd he' (h k' hk')
  · exact absurd he (h' k hk)
  · rcases Nat.lt_trichotomy k k' with c | c | c
    · exact absurd he (h' k hk c)
    · rw [c]
    · exact absurd he' (h k' hk' c)

set_option maxRecDepth 100000 in
set_option maxHeartbeats 8000000 in
theorem sl4At (s : ScopeD) (nm : ByteArray) (a1 a2 a3 a4 : Option Addr) (c1 c2 c3 c4 : Nat) (w : World) (hl : s.fObjects.length ≤ 1048576) (hr : Rows objectS Any w a3 s.fObjects) :
    Calls Tryz.prog 42 #[.agg (scopeC s a1 a2 a3 a4 c1 c2 c3 c4), .string nm] w fun e w' => ∃ r : Int, e = .returned (.int .i64 r) ∧ isAt s.fObjects nm r ∧ Below w.heap.size w w' := by
  have Hr := Lib.hid hr
  clear hr
  have B0 := Lib.hid ((Below.refl w.heap.size w).alloc (Nat.le_refl _) (.cells (scopeC s a1 a2 a3 a4 c1 c2 c3 c4) 35))
  go_enter Tryz.func42, Tryz.ntmps42
  go_wp2_with fail
  go_loopw [10] (fun i wr => ∃ k : Nat, i = .int .i64 k ∧ k ≤ s.fObjects.length ∧ (∀ i (hi : i < s.fObjects.length), i < k → s.fObjects[i].fName ≠ nm) ∧ Below w.heap.size w wr) (fun i _ => s.fObjects.length - (intOf i).toNat)
  case atStart => exact ⟨0, rfl, by omega, fun _ _ h => absurd h (by omega), B0.out⟩
  case round =>
    obtain ⟨k, rfl, hk, hno, hbel⟩ := hrel
    have Hno := Lib.hid hno
    clear hno
    by_cases hlt : k < s.fObjects.length
    · obtain ⟨b, o, pa, pc, hba, hb1, _, e0, e1, e2, e3, e4, e5⟩ := object_at Hr.out hlt hbel
      subst hba
      have Hbel := Lib.hid (hbel.alloc hbel.size (.cells (objC s.fObjects[k] pa pc) 52))
      clear hbel
      have Hy := Lib.hid (show s.fObjects[k].fName = nm → isAt s.fObjects nm (k : Int) from fun h => .inr ⟨k, rfl, hlt, h, Hno.out⟩)
      have Hn := Lib.hid (show s.fObjects[k].fName ≠ nm → ∀ i (hi : i < s.fObjects.length), i < k + 1 → s.fObjects[i].fName ≠ nm from fun h i hi hik => by
        by_cases e : i = k
        · subst e; exact h
        · exact Hno.out i hi (by omega))
      generalize s.fObjects[k] = t at *
      by_cases hsm : t.fName = nm
      · have Hv := Lib.hid (Hy.out hsm)
        have hb := bytes_same t.fName nm true (by simp [hsm])
        clear hsm
        go_wp2_with fail
        go_ret
        exact ⟨_, rfl, Hv.out, Hbel.out⟩
      · have Hv := Lib.hid (Hn.out hsm)
        have hb := bytes_same t.fName nm false (by simp [hsm])
        clear hsm
        go_wp2_with fail
        exact ⟨⟨k + 1, by congr 1, by omega, Hv.out, Hbel.out⟩, by simp [intOf]; omega⟩
    · have Hv := Lib.hid (show isAt s.fObjects nm (-1) from .inl ⟨rfl, fun i hi => Hno.out i hi (by omega)⟩)
      have Hbel := Lib.hid hbel
      clear hbel
      go_wp2_with fail
      go_ret
      exact ⟨_, rfl, Hv.out, Hbel.out⟩
end Go.Proofs.YtllddjmcemcdhaaGreat

namespace Go.Proofs.YtllddjmcemcdhaaGreat
open Go.ChangeShapes Go.WideShapes Go.ChangeAt Go.RowKit

set_option maxRecDepth 100000 in
set_option maxHeartbeats 8000000 in
theorem sl4Object (a : Option Addr) (c n : Nat) (ob : ObjectD) (pa : Option Addr) (pc : Nat) (w : World) (hn : n ≤ 1048576) (hnm : ob.fName.size ≤ maxLen) (hl : ob.fParams.length ≤ 1048576) (hpc : ob.fParams.length ≤ pc) (hs : ∀ p ∈ ob.fParams, p.fName.size ≤ maxLen) (hr : Rows paramS Any w pa ob.fParams) :
    Calls Tryz.prog 41 #[.slice a n c, .agg #[.string ob.fName, .int .i64 ob.fKind, .int .i64 ob.fMark, .int .i64 ob.fType, .int .i64 ob.fValue, .slice pa ob.fParams.length pc]] w fun e w' => e = .returned (.bool (objAllB n ob)) ∧ Below w.heap.size w w' := by
  have Hr := Lib.hid hr
  have Hs := Lib.hid hs
  clear hr hs
  have HB := Lib.hid ((Below.refl w.heap.size w).alloc (Nat.le_refl _) (.cells #[.string ob.fName, .int .i64 ob.fKind, .int .i64 ob.fMark, .int .i64 ob.fType, .int .i64 ob.fValue, .slice pa ob.fParams.length pc] 52))
  have Hpar := Lib.hid (sl4Params a pa c pc n ob.fParams (w.alloc (.cells #[.string ob.fName, .int .i64 ob.fKind, .int .i64 ob.fMark, .int .i64 ob.fType, .int .i64 ob.fValue, .slice pa ob.fParams.length pc] 52)) hn hl hpc Hs.out (Hr.out.below HB.out))
  by_cases hnn : nameP ob.fName
  case neg =>
    have Hv := Lib.hid (objAllB_false (n := n) (o := ob) (fun h => hnn h.1))
    have hq := nameB_false hnn
    clear hnn Hpar
    go_enter Tryz.func41, Tryz.ntmps41
    go_wp2_with (go_at_call 39; refine (sl1Name _ _ hnm).mono ?_; rw [hq]; rintro e w' ⟨rfl, rfl⟩)
    go_ret
    exact ⟨by rw [Hv.out]; rfl, HB.out⟩
  have hT : Hid (objAll n ob → objAllB n ob = true) := Lib.hid objAllB_true
  have hF : Hid (¬ objAll n ob → objAllB n ob = false) := Lib.hid objAllB_false
  have Hp : Hid (objAll n ob ↔ (0 ≤ ob.fMark ∧ ob.fMark ≤ 2) ∧ (ob.fMark = 2 → ob.fKind = 3) ∧ ((ob.fKind = 1 ∧ ob.fType = 0 ∧ (-1000000000 ≤ ob.fValue ∧ ob.fValue ≤ 1000000000) ∧ ob.fParams.length = 0) ∨ ((ob.fKind = 2 ∨ ob.fKind = 3) ∧ (0 ≤ ob.fType ∧ ob.fType < (n : Int)) ∧ ob.fValue = 0 ∧ ob.fParams.length = 0) ∨ (ob.fKind = 4 ∧ (-1 ≤ ob.fType ∧ ob.fType < (n : Int)) ∧ ob.fValue = 0 ∧ paramsOk n ob.fParams))) := Lib.hid ⟨fun h => h.2, fun h => ⟨hnn, h⟩⟩
  have hq := nameB_true hnn
  clear hnn
  generalize objAll n ob = P at *
  generalize objAllB n ob = v at *
  generalize hpb : paramsB n ob.fParams = pb at *
  have Hpb : Hid (pb = true ↔ paramsOk n ob.fParams) := Lib.hid (by rw [← hpb]; unfold paramsB; simp)
  clear hpb
  generalize paramsOk n ob.fParams = PO at *
  generalize ob.fParams.length = np at *
  obtain ⟨nm, kd, mk, ty, vl, pr⟩ := ob
  simp only at *
  have hkd : kd = 1 ∨ kd = 2 ∨ kd = 3 ∨ kd = 4 ∨ (kd ≠ 1 ∧ kd ≠ 2 ∧ kd ≠ 3 ∧ kd ≠ 4) := by omega
  rcases hkd with rfl | rfl | rfl | rfl | ⟨k1, k2, k3, k4⟩
  all_goals
    go_enter Tryz.func41, Tryz.ntmps41
    go_wp2_with (first | (go_at_call 39; refine (sl1Name _ _ hnm).mono ?_; rw [hq]; rintro e w' ⟨rfl, rfl⟩) | (go_at_call 17; refine (sIn _ _ _ _).mono ?_; rintro e w' ⟨rfl, rfl⟩))
    all_goals first
      | (go_ret
         subst_vars
         refine ⟨?_, HB.out⟩
         show Ending.returned (Value.bool _) = Ending.returned (Value.bool _)
         refine congrArg (fun b => Ending.returned (Value.bool b)) ?_
         have hp := Hp.out
         try simp only [bne_iff_ne, ne_eq] at *
         try simp only [beq_eq_false_iff_ne, ne_eq] at *
         try simp only [bne_eq_false_iff_eq] at *
         clear HB Hpar Hr Hs
         by_cases hnp : np = 0
         all_goals
           by_cases hP : P
           · refine Eq.trans ?_ (hT.out hP).symm
             obtain ⟨⟨g1, g2⟩, g3, g4⟩ := hp.1 hP
             rcases g4 with ⟨g4, g5, ⟨g6, g7⟩, g8⟩ | ⟨g4, ⟨g5, g6⟩, g7, g8⟩ | ⟨g4, ⟨g5, g6⟩, g7, _⟩
             all_goals first | rfl | (simp; done) | (exfalso; omega) | (simp only [Bool.and_eq_true, decide_eq_true_eq]; omega) | (exfalso; have g9 := g3 trivial; omega)
           · refine Eq.trans ?_ (hF.out hP).symm
             first
               | rfl
               | (simp; done)
               | (rw [Bool.eq_false_iff]
                  intro h
                  simp only [Bool.and_eq_true, decide_eq_true_eq] at h
                  apply hP
                  apply hp.2
                  refine ⟨⟨?_, ?_⟩, ?_, .inl ⟨?_, ?_, ⟨?_, ?_⟩, ?_⟩⟩ <;> first | exact True.intro | omega | exact .inl True.intro | exact .inr True.intro | exact fun _ => True.intro)
               | (rw [Bool.eq_false_iff]
                  intro h
                  simp only [Bool.and_eq_true, decide_eq_true_eq] at h
                  apply hP
                  apply hp.2
                  refine ⟨⟨?_, ?_⟩, ?_, .inr (.inl ⟨?_, ⟨?_, ?_⟩, ?_, ?_⟩)⟩ <;> first | exact True.intro | omega | exact .inl True.intro | exact .inr True.intro | exact fun _ => True.intro)
               | (exfalso
                  apply hP
                  apply hp.2
                  refine ⟨⟨?_, ?_⟩, ?_, .inl ⟨?_, ?_, ⟨?_, ?_⟩, ?_⟩⟩ <;> first | exact True.intro | omega | exact .inl True.intro | exact .inr True.intro | exact fun _ => True.intro)
               | (exfalso
                  apply hP
                  apply hp.2
                  refine ⟨⟨?_, ?_⟩, ?_, .inr (.inl ⟨?_, ⟨?_, ?_⟩, ?_, ?_⟩)⟩ <;> first | exact True.intro | omega | exact .inl True.intro | exact .inr True.intro | exact fun _ => True.intro))
      | (subst_vars
         refine Hpar.out.mono ?_
         rintro e w1 ⟨rfl, hb1⟩
         have B1 := Lib.hid (HB.out.trans (hb1.mono HB.out.size))
         clear hb1
         have Hv : v = pb := by
           cases pb
           · refine hF.out (fun h => ?_)
             have h9 := (Hp.out.1 h).2.2
             have h8 : ¬ PO := fun h => by cases Hpb.out.2 h
             rcases h9 with h9 | h9 | h9
             · omega
             · omega
             · exact h8 h9.2.2.2
           · have h8 := Hpb.out.1 rfl
             exact hT.out (Hp.out.2 ⟨⟨by omega, by omega⟩, by omega, .inr (.inr ⟨by first | exact True.intro | omega, ⟨by omega, by omega⟩, by first | exact True.intro | omega, h8⟩)⟩)
         have Hv := Lib.hid Hv
         go_wp2_with fail
         go_ret
         exact ⟨by rw [Hv.out]; rfl, B1.out⟩)
end Go.Proofs.YtllddjmcemcdhaaGreat
