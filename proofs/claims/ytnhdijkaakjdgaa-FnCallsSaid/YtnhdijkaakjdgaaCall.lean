
/-
  What is proved: contracts of the program's MayCall, and of what it calls: mayPass, slices.EqualFunc on parameters, areTypeNumbers. No condition beside what each theorem states.
-/
import Derived.Test.YtnhdijkaakjdgaaPutB
import Derived.Test.YtnhdijkaakjdgaaOpenScope
import Derived.Deep.RegionHeld3
namespace Go.Proofs.Ytnhdijkaakjdgaa
open Go.ChangeShapes Go.WideShapes Go.ChangeAt Go.RowKit
set_option maxRecDepth 100000

/-- What is of the type y may be handed over for a parameter. -/
def passQ (l : List TypeD) (p : ParamD) (y : Int) : Prop := ∃ (i j : Nat) (hi : i < l.length) (hj : j < l.length), p.fType = (i : Int) ∧ y = (j : Int) ∧ (p.fByVar = true → i = j) ∧ (p.fByVar = false → putQ l i j hi hj)
theorem pass_iff {l : List TypeD} {p : ParamD} {i j : Nat} (hi : i < l.length) (hj : j < l.length) (ht : p.fType = (i : Int)) : passQ l p (j : Int) ↔ ((p.fByVar = true → i = j) ∧ (p.fByVar = false → putQ l i j hi hj)) := by
  constructor
  · rintro ⟨i', j', hi', hj', e1, e2, h1, h2⟩
    have e1 : i = i' := by omega
    have e2 : j = j' := by omega
    subst e1 e2
    exact ⟨h1, h2⟩
  · exact fun h => ⟨i, j, hi, hj, ht, rfl, h.1, h.2⟩
def passAll (l : List TypeD) (ps : List ParamD) (ys : List Int) : Prop := ps.length = ys.length ∧ ∀ i (h : i < ps.length) (h' : i < ys.length), passQ l ps[i] ys[i]
def callP (s : ScopeD) (n : Int) (ys : List Int) : Prop := scopeP s ∧ (∃ (k : Nat) (hk : k < s.fObjects.length), n = (k : Int) ∧ s.fObjects[k].fKind = 4) ∧ ys.length ≤ 4 ∧ ∀ y ∈ ys, 0 ≤ y ∧ y < (s.fTypes.length : Int)
def callQ (s : ScopeD) (n : Int) (ys : List Int) : Prop := ∃ (k : Nat) (hk : k < s.fObjects.length), n = (k : Int) ∧ passAll s.fTypes s.fObjects[k].fParams ys
open Classical in
noncomputable def callOk (s : ScopeD) (n : Int) (ys : List Int) : Bool := decide (callP s n ys)
open Classical in
noncomputable def callA (s : ScopeD) (n : Int) (ys : List Int) : Bool := decide (callP s n ys ∧ callQ s n ys)
theorem call_out {s : ScopeD} {n : Int} {ys : List Int} (h : ¬ callP s n ys) : callOk s n ys = false ∧ callA s n ys = false :=
  ⟨by unfold callOk; simp only [decide_eq_false_iff_not]; exact h, by unfold callA; simp only [decide_eq_false_iff_not]; exact fun g => h g.1⟩
theorem call_in {s : ScopeD} {k : Nat} {ys : List Int} (h : callP s (k : Int) ys) (hk : k < s.fObjects.length) : callOk s (k : Int) ys = true ∧ (callA s (k : Int) ys = true ↔ passAll s.fTypes s.fObjects[k].fParams ys) := by
  refine ⟨by unfold callOk; simp only [decide_eq_true_eq]; exact h, ?_⟩
  unfold callA
  simp only [decide_eq_true_eq]
  constructor
  · rintro ⟨_, k', hk', e, hp⟩
    have e : k = k' := by omega
    subst e
    exact hp
  · exact fun g => ⟨h, k, hk, rfl, g⟩
theorem call_params {s : ScopeD} (h : scopeP s) {k : Nat} (hk : k < s.fObjects.length) (h4 : s.fObjects[k].fKind = 4) : s.fObjects[k].fParams.length ≤ 4 ∧ ∀ p ∈ s.fObjects[k].fParams, 0 ≤ p.fType ∧ p.fType < (s.fTypes.length : Int) := by
  have ho := h.2.2.2.1.2.1 _ (List.getElem_mem hk)
  rcases ho.2.2 with ⟨q, _⟩ | ⟨q, _⟩ | ⟨_, _, _, q⟩
  · omega
  · omega
  · exact ⟨q.1, fun p hp => q.2.1 p hp⟩

set_option maxHeartbeats 4000000 in
theorem iMayPass (a : Option Addr) (c : Nat) (l : List TypeD) (p : ParamD) (j : Nat) (ht : 0 ≤ p.fType ∧ p.fType < (l.length : Int)) (hj : j < l.length) (w : World) (hg : good l) (hr : Rows typeS Any w a l) :
    Calls Try.prog 33 #[.slice a l.length c, .agg #[.string p.fName, .bool p.fByVar, .int .i64 p.fType], .int .i64 (j : Int)] w fun e w' => ∃ q : Bool, e = .returned (.bool q) ∧ (q = true ↔ passQ l p (j : Int)) ∧ Below w.heap.size w w' := by
  obtain ⟨i, hi'⟩ : ∃ i : Nat, p.fType = (i : Int) := Int.eq_ofNat_of_zero_le ht.1
  have hi : i < l.length := by omega
  have Hp := Lib.hid (pass_iff hi hj hi')
  have B0 := Lib.hid ((Below.refl w.heap.size w).alloc (Nat.le_refl _) (.cells #[.string p.fName, .bool p.fByVar, .int .i64 p.fType] 45))
  have R0 := Lib.hid (hr.below B0.out)
  have Hg := Lib.hid hg
  rw [hi'] at B0 R0
  rw [hi']
  clear hr hg ht hi'
  obtain ⟨nm, bv, ty⟩ := p
  dsimp only at *
  cases bv
  · go_enter Try.func33, Try.ntmps33
    go_wp2_with fail
    refine (iPutF a c l i j hi hj _ Hg.out R0.out).mono ?_
    rintro e w1 ⟨rfl, hb1⟩
    have B1 := Lib.hid (B0.out.trans (hb1.mono B0.out.size))
    clear hb1
    have Hv := Lib.hid (show putB l i j hi hj = true ↔ passQ l ⟨nm, false, ty⟩ (j : Int) by
      rw [Hp.out]
      by_cases h : putQ l i j hi hj
      · rw [putB_true h]; exact ⟨fun _ => ⟨fun e => (by cases e), fun _ => h⟩, fun _ => rfl⟩
      · rw [putB_false h]; exact ⟨fun e => (by cases e), fun g => absurd (g.2 (by first | rfl | trivial)) h⟩)
    generalize putB l i j hi hj = q at *
    go_wp2_with fail
    go_ret
    exact ⟨q, rfl, Hv.out, B1.out⟩
  · go_enter Try.func33, Try.ntmps33
    go_wp2_with fail
    refine (iAreSame _ _ _ _).mono ?_
    rintro e w1 ⟨rfl, rfl⟩
    have Hv := Lib.hid (show decide ((i : Int) = (j : Int)) = true ↔ passQ l ⟨nm, true, ty⟩ (j : Int) by
      rw [Hp.out, decide_eq_true_eq]
      exact ⟨fun h => ⟨fun _ => by omega, fun e => (by cases e)⟩, fun g => by have := g.1 (by first | rfl | trivial); omega⟩)
    generalize decide ((i : Int) = (j : Int)) = q at *
    go_wp2_with fail
    go_ret
    exact ⟨q, rfl, Hv.out, B0.out⟩

set_option maxHeartbeats 8000000 in
theorem iEqualPass (pa : Option Addr) (pc : Nat) (ps : List ParamD) (ya : Option Addr) (yc : Nat) (ys : List Int) (a : Option Addr) (c : Nat) (l : List TypeD) (w : World) (hps : ps.length ≤ 4) (hp : ∀ p ∈ ps, 0 ≤ p.fType ∧ p.fType < (l.length : Int)) (hy : ∀ y ∈ ys, 0 ≤ y ∧ y < (l.length : Int)) (hg : good l) (hr : Rows typeS Any w a l) (hrp : Rows paramS Any w pa ps) (hry : Nums w ya ys) :
    Calls Try.prog 32 #[.slice pa ps.length pc, .slice ya ys.length yc, .func (.func 33) #[.slice a l.length c] #[]] w fun e w' => ∃ q : Bool, e = .returned (.bool q) ∧ (q = true ↔ passAll l ps ys) ∧ Below w.heap.size w w' := by
  have Hp := Lib.hid hp
  have Hy := Lib.hid hy
  have Hg := Lib.hid hg
  have Hr := Lib.hid hr
  have Hrp := Lib.hid hrp
  have Hry := Lib.hid hry
  clear hp hy hg hr hrp hry
  go_enter Try.func32, Try.ntmps32
  by_cases hlen : ps.length = ys.length
  · have hne : ((ps.length : Int) != (ys.length : Int)) = false := by rw [bne_eq_false_iff_eq]; omega
    have Hlen := Lib.hid hlen
    clear hlen
    go_wp2_with fail
    go_loopw [17] (fun x wr => ∃ k : Nat, x = .int .i64 k ∧ k ≤ ps.length ∧ (∀ i (h : i < ps.length) (h' : i < ys.length), i < k → passQ l ps[i] ys[i]) ∧ Below w.heap.size w wr) (fun x _ => ps.length - (intOf x).toNat)
    case atStart => exact ⟨0, rfl, by omega, fun i _ _ h => absurd h (by omega), Below.refl _ _⟩
    case round =>
      obtain ⟨k, rfl, hk, hyes, hbel⟩ := hrel
      have Hyes := Lib.hid hyes
      have Hbel := Lib.hid hbel
      clear hyes
      obtain ⟨wo, hwo⟩ : ∃ x, x = wr := ⟨_, rfl⟩
      subst hwo
      by_cases hlt : k < ps.length
      · have hly : k < ys.length := by have := Hlen.out; omega
        obtain ⟨b, o, rfl, hb1, e0, e1, e2⟩ := param_at Hrp.out hlt hbel
        obtain ⟨by', oy, rfl, hby, g0⟩ := Hry.out k hly
        replace g0 := (hbel.cell (p := ⟨by', oy + k, none⟩) hby).trans g0
        have hpk := Hp.out _ (List.getElem_mem hlt)
        have hyk := Hy.out _ (List.getElem_mem hly)
        have Hno := Lib.hid (show ¬ passQ l ps[k] ys[k] → ¬ passAll l ps ys from fun h g => h (g.2 k hlt hly))
        have Hnx := Lib.hid (show passQ l ps[k] ys[k] → ∀ i (h : i < ps.length) (h' : i < ys.length), i < k + 1 → passQ l ps[i] ys[i] from fun g i h h' hik => by
          by_cases e : i = k
          · subst e; exact g
          · exact Hyes.out i h h' (by omega))
        generalize ps[k] = p at *
        generalize ys[k] = y at *
        have BA := (Below.refl wo.heap.size wo).alloc (Nat.le_refl _) (.cells #[.string p.fName, .bool p.fByVar, .int .i64 p.fType] 45)
        have B1 := Lib.hid (hbel.trans (BA.mono hbel.size))
        have R1 := Lib.hid (Hr.out.below B1.out)
        have g1 := (BA.cell (p := ⟨by', oy + k, none⟩) (Nat.lt_of_lt_of_le hby hbel.size)).trans g0
        obtain ⟨j, rfl⟩ := Int.eq_ofNat_of_zero_le hyk.1
        have hjl : j < l.length := by omega
        clear BA hbel g0
        go_wp2_with fail
        refine (iMayPass a c l p j hpk hjl _ Hg.out R1.out).mono ?_
        rintro e w2 ⟨q, rfl, hq, hb2⟩
        have B2 := Lib.hid (B1.out.trans (hb2.mono B1.out.size))
        clear hb2
        cases q
        · have Hv := Lib.hid (Hno.out (fun g => by have := hq.2 g; cases this))
          clear hq
          go_wp2_with fail
          go_ret
          exact ⟨false, rfl, ⟨fun e => (by cases e), fun g => absurd g Hv.out⟩, B2.out⟩
        · have Hv := Lib.hid (Hnx.out (hq.1 rfl))
          clear hq
          go_wp2_with fail
          exact ⟨⟨k + 1, by congr 1, by omega, Hv.out, B2.out⟩, by simp [intOf]; omega⟩
      · have Hv := Lib.hid (show passAll l ps ys from ⟨Hlen.out, fun i h h' => Hyes.out i h h' (by omega)⟩)
        clear hbel
        go_wp2_with fail
        go_ret
        exact ⟨true, rfl, ⟨fun _ => Hv.out, fun _ => rfl⟩, Hbel.out⟩
  · have hne : ((ps.length : Int) != (ys.length : Int)) = true := by rw [bne_iff_ne]; omega
    have Hv := Lib.hid (show ¬ passAll l ps ys from fun h => hlen h.1)
    clear hlen
    go_wp2_with fail
    go_ret
    exact ⟨false, rfl, ⟨fun e => (by cases e), fun g => absurd g Hv.out⟩, Below.refl _ _⟩

set_option maxHeartbeats 4000000 in
theorem iTypeNumClo (a : Option Addr) (n c : Nat) (y : Int) (g : Nat) (w : World) (hg : Box w g 24 #[.slice a n c]) :
    Calls Try.prog 60 #[.int .i64 y, .pointer (some ⟨g, 0, none⟩)] w fun e w' => e = .returned (.bool (!decide (0 ≤ y ∧ y < (n : Int)))) ∧ w = w' := by
  have g0 : _ = some (Value.slice a n c) := hg.cell 0
  clear hg
  obtain ⟨v, hv⟩ : ∃ v, decide (0 ≤ y ∧ y < (n : Int)) = v := ⟨_, rfl⟩
  have Hi := Lib.hid (iTypeNumber a c n y w)
  rw [hv] at Hi
  rw [hv]
  clear hv
  go_enter Try.func60, Try.ntmps60
  go_wp2_with fail
  refine Hi.out.mono ?_
  rintro e w1 ⟨rfl, rfl⟩
  go_wp2_with fail
  go_ret
  exact ⟨rfl, rfl⟩

set_option maxHeartbeats 4000000 in
theorem iIdxType (ya : Option Addr) (yc : Nat) (ys : List Int) (a : Option Addr) (n c g : Nat) (w : World) (hl : ys.length ≤ 1048576) (hr : Nums w ya ys) (hg : Box w g 24 #[.slice a n c]) :
    Calls Try.prog 97 #[.slice ya ys.length yc, .func (.func 60) #[] #[.pointer (some ⟨g, 0, none⟩)]] w fun e w' => ∃ r : Int, e = .returned (.int .i64 r) ∧ (r < 0 ↔ ∀ y ∈ ys, 0 ≤ y ∧ y < (n : Int)) ∧ w = w' := by
  have Hr := Lib.hid hr
  have G := Lib.hid hg
  clear hr hg
  go_enter Try.func97, Try.ntmps97
  go_wp2_with fail
  go_loop [8] (fun i => ∃ k : Nat, i = .int .i64 k ∧ k ≤ ys.length ∧ ∀ j (hj : j < ys.length), j < k → 0 ≤ ys[j] ∧ ys[j] < (n : Int)) (fun i => ys.length - (intOf i).toNat)
  case atStart => exact ⟨0, rfl, by omega, fun j _ h => absurd h (by omega)⟩
  case round =>
    obtain ⟨k, rfl, hk, hyes⟩ := hrel
    have Hyes := Lib.hid hyes
    clear hyes
    by_cases hlt : k < ys.length
    · obtain ⟨b, o, rfl, _, g0⟩ := Hr.out k hlt
      have Hno := Lib.hid (show ¬ (0 ≤ ys[k] ∧ ys[k] < (n : Int)) → ¬ ∀ y ∈ ys, 0 ≤ y ∧ y < (n : Int) from fun h g => h (g _ (List.getElem_mem hlt)))
      have Hnx := Lib.hid (show (0 ≤ ys[k] ∧ ys[k] < (n : Int)) → ∀ j (hj : j < ys.length), j < k + 1 → 0 ≤ ys[j] ∧ ys[j] < (n : Int) from fun g j hj hjk => by
        by_cases e : j = k
        · subst e; exact g
        · exact Hyes.out j hj (by omega))
      generalize ys[k] = y at *
      by_cases hy : 0 ≤ y ∧ y < (n : Int)
      · have Hv := Lib.hid (Hnx.out hy)
        have Hc := Lib.hid (iTypeNumClo a n c y g w G.out)
        rw [decide_eq_true hy] at Hc
        clear hy
        go_wp2_with fail
        refine Hc.out.mono ?_
        rintro e w1 ⟨rfl, rfl⟩
        go_wp2_with fail
        go_round
        case rel => exact ⟨k + 1, by go_num, by omega, Hv.out⟩
        case measure => simp [intOf]; omega
      · have Hv := Lib.hid (Hno.out hy)
        have Hc := Lib.hid (iTypeNumClo a n c y g w G.out)
        rw [decide_eq_false hy] at Hc
        clear hy
        go_wp2_with fail
        refine Hc.out.mono ?_
        rintro e w1 ⟨rfl, rfl⟩
        go_wp2_with fail
        go_ret
        exact ⟨_, rfl, ⟨fun h => absurd h (by omega), fun h => absurd h Hv.out⟩, rfl⟩
    · have Hv := Lib.hid (show ∀ y ∈ ys, 0 ≤ y ∧ y < (n : Int) from fun y hy => by
        obtain ⟨j, hj, rfl⟩ := List.getElem_of_mem hy
        exact Hyes.out j hj (by omega))
      go_wp2_with fail
      go_ret
      exact ⟨_, rfl, ⟨fun _ => Hv.out, fun _ => by decide⟩, rfl⟩

theorem iContainsType (ya : Option Addr) (yc : Nat) (ys : List Int) (a : Option Addr) (n c g : Nat) (w : World) (hl : ys.length ≤ 1048576) (hr : Nums w ya ys) (hg : Box w g 24 #[.slice a n c]) :
    Calls Try.prog 59 #[.slice ya ys.length yc, .func (.func 60) #[] #[.pointer (some ⟨g, 0, none⟩)]] w fun e w' => ∃ q : Bool, e = .returned (.bool q) ∧ (q = false ↔ ∀ y ∈ ys, 0 ≤ y ∧ y < (n : Int)) ∧ w = w' := by
  have Hi := Lib.hid (iIdxType ya yc ys a n c g w hl hr hg)
  clear hr hg
  go_enter Try.func59, Try.ntmps59
  go_wp2_with fail
  refine Hi.out.mono ?_
  rintro e w1 ⟨r, rfl, hr, rfl⟩
  have Hv := Lib.hid (show decide (0 ≤ r) = false ↔ ∀ y ∈ ys, 0 ≤ y ∧ y < (n : Int) by rw [← hr, decide_eq_false_iff_not]; omega)
  clear hr Hi
  generalize hq : decide (0 ≤ r) = q at *
  go_wp2_with fail
  go_ret
  exact ⟨_, rfl, Hv.out, rfl⟩

set_option maxHeartbeats 4000000 in
theorem iAreTypeNums (a : Option Addr) (n c : Nat) (ya : Option Addr) (yc : Nat) (ys : List Int) (w : World) (hl : ys.length ≤ 1048576) (hr : Nums w ya ys) :
    Calls Try.prog 31 #[.slice a n c, .slice ya ys.length yc] w fun e w' => ∃ q : Bool, e = .returned (.bool q) ∧ (q = true ↔ ∀ y ∈ ys, 0 ≤ y ∧ y < (n : Int)) ∧ Below w.heap.size w w' := by
  have B0 := Lib.hid ((Below.refl w.heap.size w).alloc (Nat.le_refl _) (.cells #[.slice a n c] 24))
  have Hi := Lib.hid (iContainsType ya yc ys a n c w.heap.size _ hl (hr.below B0.out) (Box.new w 24 #[.slice a n c]))
  clear hr
  go_enter Try.func31, Try.ntmps31
  go_wp2_with fail
  refine Hi.out.mono ?_
  rintro e w1 ⟨q, rfl, hq, rfl⟩
  have Hq := Lib.hid hq
  clear hq
  go_wp2_with fail
  go_ret
  exact ⟨!q, rfl, by rw [← Hq.out]; cases q <;> simp, B0.out⟩

set_option maxHeartbeats 4000000 in
theorem iObjNum (A : ScopeD) (x : Int) (a1 a2 a3 a4 : Option Addr) (c1 c2 c3 c4 : Nat) (w : World) :
    Calls Try.prog 30 #[.agg (scopeC A a1 a2 a3 a4 c1 c2 c3 c4), .int .i64 x] w fun e w' => e = .returned (.bool (decide (0 ≤ x ∧ x < (A.fObjects.length : Int)))) ∧ Below w.heap.size w w' := by
  have B0 := Lib.hid ((Below.refl w.heap.size w).alloc (Nat.le_refl _) (.cells (scopeC A a1 a2 a3 a4 c1 c2 c3 c4) 36))
  obtain ⟨v, hv⟩ : ∃ v, decide (0 ≤ x ∧ x < (A.fObjects.length : Int)) = v := ⟨_, rfl⟩
  rw [hv]
  by_cases h1 : 0 ≤ x
  · by_cases h2 : x < (A.fObjects.length : Int)
    · have Hv := Lib.hid (show v = true by rw [← hv]; exact decide_eq_true ⟨h1, h2⟩)
      clear hv
      go_enter Try.func30, Try.ntmps30
      go_wp2_with fail
      go_ret
      exact ⟨by rw [Hv.out]; rfl, B0.out⟩
    · have Hv := Lib.hid (show v = false by rw [← hv]; exact decide_eq_false (fun h => h2 h.2))
      clear hv
      go_enter Try.func30, Try.ntmps30
      go_wp2_with fail
      go_ret
      exact ⟨by rw [Hv.out]; rfl, B0.out⟩
  · have Hv := Lib.hid (show v = false by rw [← hv]; exact decide_eq_false (fun h => h1 h.1))
    clear hv
    go_enter Try.func30, Try.ntmps30
    go_wp2_with fail
    go_ret
    exact ⟨by rw [Hv.out]; rfl, B0.out⟩

set_option maxHeartbeats 16000000 in
theorem iMayCall (s : ScopeD) (n : Int) (a1 a2 a3 a4 : Option Addr) (c1 c2 c3 c4 : Nat) (ya : Option Addr) (yc : Nat) (ys : List Int) (w : World) (hm : ScopeM w a1 a2 a3 a4 c1 c2 c3 c4 s) (hyl : ys.length ≤ 1048576) (hy : Nums w ya ys) :
    Calls Try.prog 11 #[.agg (scopeC s a1 a2 a3 a4 c1 c2 c3 c4), .int .i64 n, .slice ya ys.length yc] w fun e w' => e = .returned (.tuple #[.bool (callA s n ys), .bool (callOk s n ys)]) ∧ Below w.heap.size w w' := by
  have B0 := Lib.hid ((Below.refl w.heap.size w).alloc (Nat.le_refl _) (.cells (scopeC s a1 a2 a3 a4 c1 c2 c3 c4) 36))
  have X0 := Lib.hid (scope_box w s a1 a2 a3 a4 c1 c2 c3 c4)
  have H := Lib.hid hm
  have hlt := hm.lt
  have hlo := hm.lo
  have Hy := Lib.hid hy
  have hg := iGoodScope s a1 a2 a3 a4 c1 c2 c3 c4 _ (hm.below B0.out)
  have Hno := Lib.hid (@call_out s n ys)
  clear hm hy
  go_enter Try.func11, Try.ntmps11
  by_cases p1 : scopeP s
  · rw [scopeB_true p1] at hg
    have Hg := Lib.hid hg
    have P1 := Lib.hid p1
    clear hg p1
    go_wp2_with fail
    refine Hg.out.mono ?_
    rintro e w1 ⟨rfl, hb1⟩
    have B1 := Lib.hid (B0.out.trans (hb1.mono B0.out.size))
    have X1 := Lib.hid (X0.out.below hb1 X0.out.lt)
    clear hb1 Hg
    obtain ⟨x0, x1, x2, x3, x4⟩ := box5 X1.out
    go_wp2_with fail
    clear x0 x1 x2 x3 x4
    refine (iObjNum s n a1 a2 a3 a4 c1 c2 c3 c4 w1).mono ?_
    rintro e w2 ⟨rfl, hb2⟩
    have B2 := Lib.hid (B1.out.trans (hb2.mono B1.out.size))
    have X2 := Lib.hid (X1.out.below hb2 X1.out.lt)
    clear hb2
    obtain ⟨x0, x1, x2, x3, x4⟩ := box5 X2.out
    by_cases hin : 0 ≤ n ∧ n < (s.fObjects.length : Int)
    · rw [decide_eq_true hin]
      obtain ⟨k, rfl⟩ := Int.eq_ofNat_of_zero_le hin.1
      have hk : k < s.fObjects.length := by omega
      obtain ⟨b, o, pa, pc, hba, hb1, hrp, e0, e1, e2, e3, e4, e5⟩ := object_at H.out.r.objects hk B2.out
      subst hba
      have Hrp := Lib.hid hrp
      have Hcin := Lib.hid (fun (h : callP s (k : Int) ys) => call_in h hk)
      have Hpar := Lib.hid (fun (h4 : s.fObjects[k].fKind = 4) => call_params P1.out hk h4)
      have Hk4 := Lib.hid (show ¬ s.fObjects[k].fKind = 4 → ¬ callP s (k : Int) ys from fun h g => by
        obtain ⟨k', hk', e, h4⟩ := g.2.1
        have e : k = k' := by omega
        subst e
        exact h h4)
      have Hyes := Lib.hid (fun (h4 : s.fObjects[k].fKind = 4) (h5 : ys.length ≤ 4) (h6 : ∀ y ∈ ys, 0 ≤ y ∧ y < (s.fTypes.length : Int)) => show callP s (k : Int) ys from ⟨P1.out, ⟨k, hk, rfl, h4⟩, h5, h6⟩)
      clear hrp hin
      generalize s.fObjects[k] = t at *
      by_cases h4 : t.fKind = 4
      · have hne : (t.fKind != 4) = false := by rw [bne_eq_false_iff_eq]; exact h4
        obtain ⟨hpl, hpt⟩ := Hpar.out h4
        have Hpt := Lib.hid hpt
        have H4 := Lib.hid h4
        clear hpt Hk4 Hpar h4
        by_cases h5 : ys.length ≤ 4
        · have hgt : ¬ (4 : Int) < (ys.length : Int) := by omega
          go_wp2_with fail
          refine (iAreTypeNums a2 s.fTypes.length c2 ya yc ys w2 hyl (Hy.out.below B2.out)).mono ?_
          rintro e w3 ⟨q, rfl, hq, hb3⟩
          have B3 := Lib.hid (B2.out.trans (hb3.mono B2.out.size))
          have X3 := Lib.hid (X2.out.below hb3 X2.out.lt)
          have f1 := (hb3.cell (p := ⟨b, o + k * 6 + 1, none⟩) (Nat.lt_of_lt_of_le hb1 B2.out.size)).trans e1
          have f5 := (hb3.cell (p := ⟨b, o + k * 6 + 5, none⟩) (Nat.lt_of_lt_of_le hb1 B2.out.size)).trans e5
          clear hb3 x0 x1 x2 x3 x4 e0 e1 e2 e3 e4 e5
          obtain ⟨x0, x1, x2, x3, x4⟩ := box5 X3.out
          cases q
          · obtain ⟨u1, u2⟩ := Hno.out (fun g => by have := hq.2 g.2.2.2; cases this)
            have U1 := Lib.hid u1
            have U2 := Lib.hid u2
            clear u1 u2 hq
            go_wp2_with fail
            go_ret2
            exact ⟨by rw [U1.out, U2.out]; rfl, B3.out⟩
          · have Hq := Lib.hid (hq.1 rfl)
            obtain ⟨u1, u2⟩ := Hcin.out (Hyes.out H4.out h5 (hq.1 rfl))
            have U1 := Lib.hid u1
            have U2 := Lib.hid u2
            have Req := Lib.hid (fun W (hW : Below w3.heap.size w3 W) => iEqualPass pa pc t.fParams ya yc ys a2 c2 s.fTypes W hpl Hpt.out Hq.out P1.out.2.2.1 (H.out.r.types.below (B3.out.trans (hW.mono B3.out.size))) (Hrp.out.below (B3.out.trans (hW.mono B3.out.size))) (Hy.out.below (B3.out.trans (hW.mono B3.out.size))))
            clear u1 u2 hq
            go_wp2_with fail
            go_region_held3 (fun w' => w'.cell? ⟨w.heap.size, 2, none⟩ = some (.slice a2 s.fTypes.length c2) ∧ w'.cell? ⟨w.heap.size, 3, none⟩ = some (.slice (some ⟨b, o, none⟩) s.fObjects.length c3) ∧ w'.cell? ⟨b, o + k * 6 + 5, none⟩ = some (.slice pa t.fParams.length pc))
              (first | exact ⟨x2, x3, f5⟩ | exact ⟨z2, z3, z5⟩ | go_keep)
              (first
                | (go_at_call 32; refine (Req.out _ (by exact (Below.refl _ _).drew)).mono ?_; rintro e w4 ⟨q, rfl, hq, hb4⟩; have B4 := Lib.hid (B3.out.trans ((Below.refl w3.heap.size w3).drew.trans hb4 |>.mono B3.out.size)); have z2 := (hb4.cell (p := ⟨w.heap.size, 2, none⟩) X3.out.lt).trans x2; have z3 := (hb4.cell (p := ⟨w.heap.size, 3, none⟩) X3.out.lt).trans x3; have z5 := (hb4.cell (p := ⟨b, o + k * 6 + 5, none⟩) (Nat.lt_of_lt_of_le hb1 B3.out.size)).trans f5; have Hq4 := Lib.hid hq; clear hq hb4)
                | fail)
            have Hv := Lib.hid (show callA s (k : Int) ys = q by rw [Bool.eq_iff_iff, U2.out, Hq4.out])
            go_wp2_with fail
            go_ret2
            exact ⟨by rw [Hv.out, U1.out]; rfl, B4.out⟩
        · have hgt : (4 : Int) < (ys.length : Int) := by omega
          obtain ⟨u1, u2⟩ := Hno.out (fun g => h5 g.2.2.1)
          have U1 := Lib.hid u1
          have U2 := Lib.hid u2
          clear u1 u2
          go_wp2_with fail
          go_ret2
          exact ⟨by rw [U1.out, U2.out]; rfl, B2.out⟩
      · have hne : (t.fKind != 4) = true := by rw [bne_iff_ne]; exact h4
        obtain ⟨u1, u2⟩ := Hno.out (Hk4.out h4)
        have U1 := Lib.hid u1
        have U2 := Lib.hid u2
        clear u1 u2 h4
        go_wp2_with fail
        go_ret2
        exact ⟨by rw [U1.out, U2.out]; rfl, B2.out⟩
    · rw [decide_eq_false hin]
      obtain ⟨u1, u2⟩ := Hno.out (fun g => by obtain ⟨k', hk', e, _⟩ := g.2.1; exact hin (by omega))
      have U1 := Lib.hid u1
      have U2 := Lib.hid u2
      clear u1 u2 hin
      go_wp2_with fail
      go_ret2
      exact ⟨by rw [U1.out, U2.out]; rfl, B2.out⟩
  · rw [scopeB_false p1] at hg
    obtain ⟨u1, u2⟩ := Hno.out (fun g => p1 g.1)
    have U1 := Lib.hid u1
    have U2 := Lib.hid u2
    have Hg := Lib.hid hg
    clear u1 u2 p1 hg
    go_wp2_with fail
    refine Hg.out.mono ?_
    rintro e w1 ⟨rfl, hb1⟩
    have B1 := Lib.hid (B0.out.trans (hb1.mono B0.out.size))
    clear hb1
    go_wp2_with fail
    go_ret2
    exact ⟨by rw [U1.out, U2.out]; rfl, B1.out⟩
end Go.Proofs.Ytnhdijkaakjdgaa
