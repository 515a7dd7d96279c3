
/-
  What is proved: contracts of MayPut, the program's and the model's: what may be put where a type is, as one plain proposition. No condition beside what each theorem states.
-/
import Derived.Test.YtnhdijkaakjdgaaDeep
import Derived.Test.YtnhdijkaakjdgaaEqHeads
import Derived.Deep.QuietTactic
import Derived.BigQuiet
import Derived.Deep.RegionHeld3
import Derived.Deep.RegionWith
namespace Go.Proofs.Ytnhdijkaakjdgaa
open Go.ChangeShapes Go.WideShapes Go.ChangeAt Go.RowKit
set_option maxRecDepth 100000

theorem chain_mem {l : List TypeD} {x y : Int} (h : x ∈ chain l y) : kindZ l x = 5 ∧ kindZ l y = 5 := ⟨chain_kind h, by
  by_cases e : kindZ l y = 5
  · exact e
  · rw [chain_end e] at h; cases h⟩
theorem near.lead {l : List TypeD} (h : near l) {k : Nat} (hk : k < l.length) (h6 : l[k].fKind = 6) : kindZ l l[k].fBase = 5 ∨ kindZ l l[k].fBase = 4 := by
  rcases h.ok k hk with ⟨h3, hb⟩ | ⟨_, ho⟩
  · have := hb.1; omega
  · rcases ho.2 with ⟨q, _⟩ | ⟨q, _⟩ | ⟨_, _, b, _⟩
    · omega
    · omega
    · exact b
def ptrQ (l : List TypeD) (t u : TypeD) : Prop := t.fKind = 6 ∧ u.fKind = 6 ∧ (t.fBase = u.fBase ∨ t.fBase ∈ chain l u.fBase)
def arrQ (t u : TypeD) : Prop := t.fKind = 4 ∧ u.fKind = 4 ∧ t.fLong = u.fLong ∧ t.fBase = u.fBase
/-- What is of the type j may be put where one of the type i is. -/
def putQ (l : List TypeD) (i j : Nat) (hi : i < l.length) (hj : j < l.length) : Prop := i = j ∨ (i : Int) ∈ chain l (j : Int) ∨ ptrQ l l[i] l[j] ∨ arrQ l[i] l[j]
theorem two_cells {w : World} {a : Option Addr} {l : List TypeD} {i j : Nat} (hr : Rows typeS Any w a l) (hi : i < l.length) (hj : j < l.length) :
    ∃ b o, a = some ⟨b, o, none⟩ ∧ (w.cell? ⟨b, o + i * 6, none⟩ = some (.int .i64 l[i].fKind) ∧ w.cell? ⟨b, o + i * 6 + 1, none⟩ = some (.int .i64 l[i].fLong) ∧ w.cell? ⟨b, o + i * 6 + 2, none⟩ = some (.int .i64 l[i].fBase)) ∧
      (w.cell? ⟨b, o + j * 6, none⟩ = some (.int .i64 l[j].fKind) ∧ w.cell? ⟨b, o + j * 6 + 1, none⟩ = some (.int .i64 l[j].fLong) ∧ w.cell? ⟨b, o + j * 6 + 2, none⟩ = some (.int .i64 l[j].fBase)) := by
  obtain ⟨b, o, _, _, rfl, _, e0, e1, e2, _⟩ := type_cells hr hi (Below.refl _ _)
  obtain ⟨b', o', _, _, h', _, g0, g1, g2, _⟩ := type_cells hr hj (Below.refl _ _)
  cases h'
  exact ⟨b, o, rfl, ⟨e0, e1, e2⟩, g0, g1, g2⟩

set_option maxHeartbeats 4000000 in
theorem iAreBoth (a : Option Addr) (c : Nat) (l : List TypeD) (k : Int) (i j : Nat) (hi : i < l.length) (hj : j < l.length) (w : World) (hr : Rows typeS Any w a l) :
    Calls Try.prog 85 #[.slice a l.length c, .int .i64 k, .int .i64 (i : Int), .int .i64 (j : Int)] w fun e w' => e = .returned (.bool (decide (l[i].fKind = k ∧ l[j].fKind = k))) ∧ w = w' := by
  obtain ⟨b, o, rfl, ⟨e0, _, _⟩, g0, _, _⟩ := two_cells hr hi hj
  clear hr
  generalize l[i] = t at *
  generalize l[j] = u at *
  by_cases h1 : t.fKind = k
  · have k1 : (t.fKind == k) = true := beq_iff_eq.2 h1
    by_cases h2 : u.fKind = k
    · have k2 : (u.fKind == k) = true := beq_iff_eq.2 h2
      have Hv := Lib.hid (decide_eq_true (show t.fKind = k ∧ u.fKind = k from ⟨h1, h2⟩))
      clear h1 h2
      go_enter Try.func85, Try.ntmps85
      go_wp2_with fail
      go_ret
      exact ⟨by rw [Hv.out]; rfl, rfl⟩
    · have k2 : (u.fKind == k) = false := beq_eq_false_iff_ne.2 h2
      have Hv := Lib.hid (decide_eq_false (show ¬ (t.fKind = k ∧ u.fKind = k) from fun h => h2 h.2))
      clear h1 h2
      go_enter Try.func85, Try.ntmps85
      go_wp2_with fail
      go_ret
      exact ⟨by rw [Hv.out]; rfl, rfl⟩
  · have k1 : (t.fKind == k) = false := beq_eq_false_iff_ne.2 h1
    have Hv := Lib.hid (decide_eq_false (show ¬ (t.fKind = k ∧ u.fKind = k) from fun h => h1 h.1))
    clear h1
    go_enter Try.func85, Try.ntmps85
    go_wp2_with fail
    go_ret
    exact ⟨by rw [Hv.out]; rfl, rfl⟩

theorem eqlInt (x y : Int) (q : Bool) (h : (x == y) = q) (W : World) : (binOp .eql 3 (.int .i64 x) (.int .i64 y)).run Try.prog W = .ok (.bool q) W := by
  subst h
  rfl

theorem iAreSame (v : Value) (x y : Int) (w : World) : Calls Try.prog 47 #[v, .int .i64 x, .int .i64 y] w fun e w' => e = .returned (.bool (decide (x = y))) ∧ w = w' := by
  have Hv := Lib.hid (show decide (x = y) = (x == y) from rfl)
  rw [Hv.out]
  go_enter Try.func47, Try.ntmps47
  go_wp2_with fail
  go_ret
  exact ⟨rfl, rfl⟩

set_option maxHeartbeats 4000000 in
theorem iAreRecords (a : Option Addr) (c : Nat) (l : List TypeD) (i j : Nat) (hi : i < l.length) (hj : j < l.length) (w : World) (hg : good l) (hr : Rows typeS Any w a l) :
    Calls Try.prog 48 #[.slice a l.length c, .int .i64 (i : Int), .int .i64 (j : Int)] w fun e w' => e = .returned (.bool (decide ((i : Int) ∈ chain l (j : Int)))) ∧ Below w.heap.size w w' := by
  have h24 := hg.1.most
  have Hr := Lib.hid hr
  have Hg := Lib.hid hg
  clear hr hg
  go_enter Try.func48, Try.ntmps48
  go_wp2_with fail
  refine (iAreBoth a c l 5 i j hi hj w Hr.out).mono ?_
  rintro e w1 ⟨rfl, rfl⟩
  by_cases h : l[i].fKind = 5 ∧ l[j].fKind = 5
  · have Hx := Lib.hid (show kindZ l (j : Int) = 5 by rw [kindZ_in hj]; exact h.2)
    rw [decide_eq_true h]
    clear h
    go_wp2_with fail
    refine (iBasesFrom a c l j w Hg.out Hx.out Hr.out).mono ?_
    rintro e w2 ⟨v, rfl, hown, hb2⟩
    have hcl := chain_len Hg.out (j : Int)
    obtain ⟨a2, c2, rfl, _, hn2⟩ := hown.nums
    have N2 := Lib.hid hn2
    have B2 := Lib.hid hb2
    clear hown hn2 hb2
    go_wp2_with fail
    refine (iContains a2 c2 _ i w2 (by omega) N2.out).mono ?_
    rintro e w3 ⟨rfl, rfl⟩
    go_wp2_with fail
    go_ret
    exact ⟨rfl, B2.out⟩
  · have Hv := Lib.hid (decide_eq_false (show ¬ (i : Int) ∈ chain l (j : Int) from fun hm => h (by have := chain_mem hm; rw [kindZ_in hi, kindZ_in hj] at this; exact this)))
    rw [decide_eq_false h]
    clear h
    go_wp2_with fail
    go_ret
    exact ⟨by rw [Hv.out]; rfl, Below.refl _ _⟩

open Classical in
set_option maxHeartbeats 8000000 in
theorem iArePointers (a : Option Addr) (c : Nat) (l : List TypeD) (i j : Nat) (hi : i < l.length) (hj : j < l.length) (w : World) (hg : good l) (hr : Rows typeS Any w a l) :
    Calls Try.prog 49 #[.slice a l.length c, .int .i64 (i : Int), .int .i64 (j : Int)] w fun e w' => ∃ q : Bool, e = .returned (.bool q) ∧ (q = true ↔ ptrQ l l[i] l[j]) ∧ Below w.heap.size w w' := by
  have h24 := hg.1.most
  have Hr := Lib.hid hr
  have Hg := Lib.hid hg
  obtain ⟨b, o, rfl, ⟨e0, e1, e2⟩, g0, g1, g2⟩ := two_cells hr hi hj
  have Ho := Lib.hid (fun (h6 : l[i].fKind = 6) => hg.1.lead hi h6)
  have Hp := Lib.hid (fun (h6 : l[j].fKind = 6) => hg.1.lead hj h6)
  have Hb := Lib.hid (iAreBoth (some ⟨b, o, none⟩) c l 6 i j hi hj w hr)
  clear hr hg
  generalize l[i] = t at *
  generalize l[j] = u at *
  go_enter Try.func49, Try.ntmps49
  go_wp2_with fail
  refine Hb.out.mono ?_
  rintro e w1 ⟨rfl, rfl⟩
  by_cases h : t.fKind = 6 ∧ u.fKind = 6
  · rw [decide_eq_true h]
    have ht := Ho.out h.1
    have hu := Hp.out h.2
    have hrt := kindZ_range (l := l) (x := t.fBase) (by omega)
    have hru := kindZ_range (l := l) (x := u.fBase) (by omega)
    have H6 := Lib.hid h
    clear h Ho Hp ht hu
    go_wp2_with fail
    go_region
    go_wp2_with fail
    refine (iAreSame _ _ _ _).mono ?_
    rintro e w2 ⟨rfl, rfl⟩
    by_cases hs : t.fBase = u.fBase
    · have Hv := Lib.hid (show ptrQ l t u from ⟨H6.out.1, H6.out.2, .inl hs⟩)
      rw [decide_eq_true hs]
      clear hs
      go_wp2_with fail
      go_ret
      exact ⟨_, rfl, ⟨fun _ => Hv.out, fun _ => rfl⟩, (Below.refl _ _).drew⟩
    · rw [decide_eq_false hs]
      obtain ⟨x, hx⟩ : ∃ x : Nat, t.fBase = (x : Int) := Int.eq_ofNat_of_zero_le hrt.1
      obtain ⟨y, hy⟩ : ∃ y : Nat, u.fBase = (y : Int) := Int.eq_ofNat_of_zero_le hru.1
      have Hs := Lib.hid hs
      have Hrec := Lib.hid (fun W (hW : Rows typeS Any W (some ⟨b, o, none⟩) l) => iAreRecords (some ⟨b, o, none⟩) c l x y (by omega) (by omega) W Hg.out hW)
      rw [← hx, ← hy] at Hrec
      clear hs hx hy
      go_wp2_with fail
      refine (Hrec.out _ Hr.out.drew).mono ?_
      rintro e w2 ⟨rfl, hb2⟩
      have B2 := Lib.hid ((Below.refl w.heap.size w).drew.trans hb2)
      clear hb2
      have Hv := Lib.hid (show decide (t.fBase ∈ chain l u.fBase) = true ↔ ptrQ l t u by
        rw [decide_eq_true_eq]
        exact ⟨fun h => ⟨H6.out.1, H6.out.2, .inr h⟩, fun h => h.2.2.resolve_left Hs.out⟩)
      generalize decide (t.fBase ∈ chain l u.fBase) = q at *
      go_wp2_with fail
      go_ret
      exact ⟨_, rfl, Hv.out, B2.out⟩
  · have Hv := Lib.hid (show ¬ ptrQ l t u from fun hm => h ⟨hm.1, hm.2.1⟩)
    rw [decide_eq_false h]
    clear h
    go_wp2_with fail
    go_ret
    exact ⟨_, rfl, ⟨fun h => (by cases h), fun h => absurd h Hv.out⟩, Below.refl _ _⟩

open Classical in
set_option maxHeartbeats 8000000 in
theorem iAreArrays (a : Option Addr) (c : Nat) (l : List TypeD) (i j : Nat) (hi : i < l.length) (hj : j < l.length) (w : World) (hr : Rows typeS Any w a l) :
    Calls Try.prog 50 #[.slice a l.length c, .int .i64 (i : Int), .int .i64 (j : Int)] w fun e w' => ∃ q : Bool, e = .returned (.bool q) ∧ (q = true ↔ arrQ l[i] l[j]) ∧ Below w.heap.size w w' := by
  obtain ⟨b, o, rfl, ⟨e0, e1, e2⟩, g0, g1, g2⟩ := two_cells hr hi hj
  have Hb := Lib.hid (fun W (hW : Rows typeS Any W (some ⟨b, o, none⟩) l) => iAreBoth (some ⟨b, o, none⟩) c l 4 i j hi hj W hW)
  have Hr := Lib.hid hr
  clear hr
  generalize l[i] = t at *
  generalize l[j] = u at *
  go_enter Try.func50, Try.ntmps50
  by_cases h : t.fKind = 4 ∧ u.fKind = 4
  · rw [decide_eq_true h] at Hb
    by_cases h1 : t.fLong = u.fLong
    · have k1 : (t.fLong == u.fLong) = true := beq_iff_eq.2 h1
      have Hv := Lib.hid (show decide (t.fBase = u.fBase) = true ↔ arrQ t u by
        rw [decide_eq_true_eq]
        exact ⟨fun e => ⟨h.1, h.2, h1, e⟩, fun e => e.2.2.2⟩)
      have Hs := Lib.hid (fun W => iAreSame (.slice (some ⟨b, o, none⟩) l.length c) t.fBase u.fBase W)
      clear h h1
      generalize decide (t.fBase = u.fBase) = q at *
      go_wp2_with fail
      go_region_held3 (fun w' => w'.cell? ⟨b, o + i * 6 + 1, none⟩ = some (.int .i64 t.fLong) ∧ w'.cell? ⟨b, o + i * 6 + 2, none⟩ = some (.int .i64 t.fBase) ∧ w'.cell? ⟨b, o + j * 6 + 1, none⟩ = some (.int .i64 u.fLong) ∧ w'.cell? ⟨b, o + j * 6 + 2, none⟩ = some (.int .i64 u.fBase))
        (first | exact ⟨e1, e2, g1, g2⟩ | go_keep)
        (first | (go_at_call 85; refine (Hb.out _ (by first | exact Hr.out | exact Hr.out.drew)).mono ?_; rintro e w' ⟨rfl, rfl⟩) | (go_at_call 47; refine (Hs.out _).mono ?_; rintro e w' ⟨rfl, rfl⟩) | fail)
      go_wp2_with fail
      go_ret
      exact ⟨_, rfl, Hv.out, (Below.refl _ _).drew⟩
    · have k1 : (t.fLong == u.fLong) = false := beq_eq_false_iff_ne.2 h1
      have Hv := Lib.hid (show ¬ arrQ t u from fun e => h1 e.2.2.1)
      clear h h1
      go_wp2_with fail
      --A<
      refine wp_region_held_drew (S := fun w' => w'.cell? ⟨b, o + i * 6 + 1, none⟩ = some (.int .i64 t.fLong) ∧ w'.cell? ⟨b, o + j * 6 + 1, none⟩ = some (.int .i64 u.fLong)) (by kernel_rfl) ?_ (fun hHeld => ?_)
      · try dsimp only
        exact ⟨e1, g1⟩
      refine wpAnyH_take (i := 0) (oi := { dst := some 7, op := Op.move (Operand.tmp 0), type := 60, pos := "l10_fit.go:149", after := #[], guard := none }) (v := .slice (some ⟨b, o, none⟩) l.length c) rfl (by kernel_rfl) (by kernel_rfl) (by kernel_rfl) (fun _ _ _ h => h) (Or.inl ⟨by rfl, ?_⟩) (by assumption) ?_
      · intro wS hSw
        try dsimp only at hSw
        go_simp
      try simp only [Act.put, List.setIfInBounds_toArray, List.set_cons_zero, List.set_cons_succ]
      refine wpAnyH_take (i := 1) (oi := { dst := some 8, op := Op.move (Operand.tmp 1), type := 3, pos := "l10_fit.go:149", after := #[], guard := none }) (v := .int .i64 (i : Int)) rfl (by kernel_rfl) (by kernel_rfl) (by kernel_rfl) (fun _ _ _ h => h) (Or.inl ⟨by rfl, ?_⟩) (by assumption) ?_
      · intro wS hSw
        try dsimp only at hSw
        go_simp
      try simp only [Act.put, List.setIfInBounds_toArray, List.set_cons_zero, List.set_cons_succ]
      refine wpAnyH_take (i := 2) (oi := { dst := some 9, op := Op.move (Operand.tmp 2), type := 3, pos := "l10_fit.go:149", after := #[], guard := none }) (v := .int .i64 (j : Int)) rfl (by kernel_rfl) (by kernel_rfl) (by kernel_rfl) (fun _ _ _ h => h) (Or.inl ⟨by rfl, ?_⟩) (by assumption) ?_
      · intro wS hSw
        try dsimp only at hSw
        go_simp
      try simp only [Act.put, List.setIfInBounds_toArray, List.set_cons_zero, List.set_cons_succ]
      refine wpAnyH_ready (rs := [3]) (by kernel_rfl) (by simp) ?_
      refine AllReadyH.cons (o := { dst := some 10, op := Op.call { callee := Callee.value (Operand.func 85), args := #[Operand.tmp 7, Operand.const (Value.int IntKind.i64 4), Operand.tmp 8, Operand.tmp 9], argTypes := #[60, 3, 3, 3] }, type := 4, pos := "l10_fit.go:149", after := #[{ on := 0, ground := Ground.data }, { on := 1, ground := Ground.data }, { on := 2, ground := Ground.data }], guard := none }) rfl (fun K hK => ?_) AllReadyH.nil
      go_simp
      go_at_call 85
      refine (Hb.out _ Hr.out.drew).mono ?_
      rintro e w' ⟨rfl, rfl⟩
      refine hK.out _ _ ?_ (fun hHeld2 => ?_)
      · try dsimp only
        exact hHeld
      clear hK K hHeld
      have hHeld := hHeld2
      clear hHeld2
      try simp only [Act.put, List.setIfInBounds_toArray, List.set_cons_zero, List.set_cons_succ]
      refine wpAnyH_take (i := 4) (oi := { dst := some 11, op := Op.move (Operand.tmp 10), type := 4, pos := "l10_fit.go:149", after := #[{ on := 3, ground := Ground.data }, { on := 3, ground := Ground.chain }], guard := none }) (v := .bool true) rfl (by kernel_rfl) (by kernel_rfl) (by kernel_rfl) (fun _ _ _ h => h) (Or.inl ⟨by rfl, ?_⟩) (by assumption) ?_
      · intro wS hSw
        try dsimp only at hSw
        go_simp
      try simp only [Act.put, List.setIfInBounds_toArray, List.set_cons_zero, List.set_cons_succ]
      refine wpAnyH_take (i := 5) (oi := { dst := some 12, op := Op.move (Operand.tmp 0), type := 60, pos := "l10_fit.go:149", after := #[{ on := 4, ground := Ground.guard }], guard := some (4, true) }) (v := .slice (some ⟨b, o, none⟩) l.length c) rfl (by kernel_rfl) (by kernel_rfl) (by kernel_rfl) (fun _ _ _ h => h) (Or.inl ⟨by rfl, ?_⟩) (by assumption) ?_
      · intro wS hSw
        try dsimp only at hSw
        go_simp
      try simp only [Act.put, List.setIfInBounds_toArray, List.set_cons_zero, List.set_cons_succ]
      refine wpAnyH_take (i := 6) (oi := { dst := some 13, op := Op.move (Operand.tmp 1), type := 3, pos := "l10_fit.go:149", after := #[{ on := 4, ground := Ground.guard }], guard := some (4, true) }) (v := .int .i64 (i : Int)) rfl (by kernel_rfl) (by kernel_rfl) (by kernel_rfl) (fun _ _ _ h => h) (Or.inl ⟨by rfl, ?_⟩) (by assumption) ?_
      · intro wS hSw
        try dsimp only at hSw
        go_simp
      try simp only [Act.put, List.setIfInBounds_toArray, List.set_cons_zero, List.set_cons_succ]
      refine wpAnyH_take (i := 7) (oi := { dst := some 14, op := Op.indexAddr 60 (Operand.tmp 12) (Operand.tmp 13), type := 0, pos := "l10_fit.go:149", after := #[{ on := 5, ground := Ground.data }, { on := 6, ground := Ground.data }, { on := 4, ground := Ground.guard }], guard := some (4, true) }) (v := .pointer (some ⟨b, o + i * 6, none⟩)) rfl (by kernel_rfl) (by kernel_rfl) (by kernel_rfl) (fun _ _ _ h => h) (Or.inl ⟨by rfl, ?_⟩) (by assumption) ?_
      · intro wS hSw
        try dsimp only at hSw
        go_simp
      try simp only [Act.put, List.setIfInBounds_toArray, List.set_cons_zero, List.set_cons_succ]
      refine wpAnyH_take (i := 8) (oi := { dst := some 15, op := Op.fieldAddr 31 (Operand.tmp 14) 1, type := 0, pos := "l10_fit.go:149", after := #[{ on := 7, ground := Ground.data }, { on := 4, ground := Ground.guard }], guard := some (4, true) }) (v := .pointer (some ⟨b, o + i * 6 + 1, none⟩)) rfl (by kernel_rfl) (by kernel_rfl) (by kernel_rfl) (fun _ _ _ h => h) (Or.inl ⟨by rfl, ?_⟩) (by assumption) ?_
      · intro wS hSw
        try dsimp only at hSw
        go_simp
      try simp only [Act.put, List.setIfInBounds_toArray, List.set_cons_zero, List.set_cons_succ]
      refine wpAnyH_take (i := 9) (oi := { dst := some 16, op := Op.load 3 (Operand.tmp 15), type := 3, pos := "l10_fit.go:149", after := #[{ on := 8, ground := Ground.data }, { on := 4, ground := Ground.guard }], guard := some (4, true) }) (v := .int .i64 t.fLong) rfl (by kernel_rfl) (by kernel_rfl) (by kernel_rfl) (fun _ _ _ h => h) (Or.inl ⟨by rfl, ?_⟩) (by assumption) ?_
      · intro wS hSw
        try dsimp only at hSw
        go_simp
      try simp only [Act.put, List.setIfInBounds_toArray, List.set_cons_zero, List.set_cons_succ]
      refine wpAnyH_take (i := 10) (oi := { dst := some 17, op := Op.move (Operand.tmp 0), type := 60, pos := "l10_fit.go:149", after := #[{ on := 4, ground := Ground.guard }], guard := some (4, true) }) (v := .slice (some ⟨b, o, none⟩) l.length c) rfl (by kernel_rfl) (by kernel_rfl) (by kernel_rfl) (fun _ _ _ h => h) (Or.inl ⟨by rfl, ?_⟩) (by assumption) ?_
      · intro wS hSw
        try dsimp only at hSw
        go_simp
      try simp only [Act.put, List.setIfInBounds_toArray, List.set_cons_zero, List.set_cons_succ]
      refine wpAnyH_take (i := 11) (oi := { dst := some 18, op := Op.move (Operand.tmp 2), type := 3, pos := "l10_fit.go:149", after := #[{ on := 4, ground := Ground.guard }], guard := some (4, true) }) (v := .int .i64 (j : Int)) rfl (by kernel_rfl) (by kernel_rfl) (by kernel_rfl) (fun _ _ _ h => h) (Or.inl ⟨by rfl, ?_⟩) (by assumption) ?_
      · intro wS hSw
        try dsimp only at hSw
        go_simp
      try simp only [Act.put, List.setIfInBounds_toArray, List.set_cons_zero, List.set_cons_succ]
      refine wpAnyH_take (i := 12) (oi := { dst := some 19, op := Op.indexAddr 60 (Operand.tmp 17) (Operand.tmp 18), type := 0, pos := "l10_fit.go:149", after := #[{ on := 10, ground := Ground.data }, { on := 11, ground := Ground.data }, { on := 4, ground := Ground.guard }], guard := some (4, true) }) (v := .pointer (some ⟨b, o + j * 6, none⟩)) rfl (by kernel_rfl) (by kernel_rfl) (by kernel_rfl) (fun _ _ _ h => h) (Or.inl ⟨by rfl, ?_⟩) (by assumption) ?_
      · intro wS hSw
        try dsimp only at hSw
        go_simp
      try simp only [Act.put, List.setIfInBounds_toArray, List.set_cons_zero, List.set_cons_succ]
      refine wpAnyH_take (i := 13) (oi := { dst := some 20, op := Op.fieldAddr 31 (Operand.tmp 19) 1, type := 0, pos := "l10_fit.go:149", after := #[{ on := 12, ground := Ground.data }, { on := 4, ground := Ground.guard }], guard := some (4, true) }) (v := .pointer (some ⟨b, o + j * 6 + 1, none⟩)) rfl (by kernel_rfl) (by kernel_rfl) (by kernel_rfl) (fun _ _ _ h => h) (Or.inl ⟨by rfl, ?_⟩) (by assumption) ?_
      · intro wS hSw
        try dsimp only at hSw
        go_simp
      try simp only [Act.put, List.setIfInBounds_toArray, List.set_cons_zero, List.set_cons_succ]
      refine wpAnyH_take (i := 14) (oi := { dst := some 21, op := Op.load 3 (Operand.tmp 20), type := 3, pos := "l10_fit.go:149", after := #[{ on := 13, ground := Ground.data }, { on := 4, ground := Ground.guard }], guard := some (4, true) }) (v := .int .i64 u.fLong) rfl (by kernel_rfl) (by kernel_rfl) (by kernel_rfl) (fun _ _ _ h => h) (Or.inl ⟨by rfl, ?_⟩) (by assumption) ?_
      · intro wS hSw
        try dsimp only at hSw
        go_simp
      try simp only [Act.put, List.setIfInBounds_toArray, List.set_cons_zero, List.set_cons_succ]
      refine wpAnyH_take (i := 15) (oi := { dst := some 22, op := Op.binOp BinOp.eql 3 (Operand.tmp 16) (Operand.tmp 21) 3, type := 4, pos := "l10_fit.go:149", after := #[{ on := 9, ground := Ground.data }, { on := 14, ground := Ground.data }, { on := 4, ground := Ground.guard }], guard := some (4, true) }) (v := .bool false) rfl (by kernel_rfl) (by kernel_rfl) (by kernel_rfl) (fun _ _ _ h => h) (Or.inl ⟨by rfl, ?_⟩) (by assumption) ?_
      · intro wS hSw
        try dsimp only at hSw
        go_simp
      try simp only [Act.put, List.setIfInBounds_toArray, List.set_cons_zero, List.set_cons_succ]
      refine wpAnyH_take (i := 16) (oi := { dst := some 23, op := Op.pick (Operand.tmp 11) (Operand.tmp 22) (Operand.const (Value.bool false)), type := 4, pos := "l10_fit.go:149", after := #[{ on := 4, ground := Ground.data }, { on := 15, ground := Ground.data }], guard := none }) (v := .bool false) rfl (by kernel_rfl) (by kernel_rfl) (by kernel_rfl) (fun _ _ _ h => h) (Or.inl ⟨by rfl, ?_⟩) (by assumption) ?_
      · intro wS hSw
        try dsimp only at hSw
        go_simp
      try simp only [Act.put, List.setIfInBounds_toArray, List.set_cons_zero, List.set_cons_succ]
      refine wpAnyH_take (i := 17) (oi := { dst := some 24, op := Op.move (Operand.tmp 23), type := 4, pos := "l10_fit.go:149", after := #[{ on := 16, ground := Ground.data }, { on := 4, ground := Ground.chain }], guard := none }) (v := .bool false) rfl (by kernel_rfl) (by kernel_rfl) (by kernel_rfl) (fun _ _ _ h => h) (Or.inl ⟨by rfl, ?_⟩) (by assumption) ?_
      · intro wS hSw
        try dsimp only at hSw
        go_simp
      try simp only [Act.put, List.setIfInBounds_toArray, List.set_cons_zero, List.set_cons_succ]
      refine wpAnyH_take (i := 18) (oi := { dst := some 25, op := Op.move (Operand.tmp 0), type := 60, pos := "l10_fit.go:149", after := #[{ on := 17, ground := Ground.guard }], guard := some (17, true) }) (v := undef) rfl (by kernel_rfl) (by kernel_rfl) (by kernel_rfl) (fun _ _ _ h => h) (Or.inr ⟨by rfl, rfl⟩) (by assumption) ?_
      try simp only [Act.put, List.setIfInBounds_toArray, List.set_cons_zero, List.set_cons_succ]
      refine wpAnyH_take (i := 19) (oi := { dst := some 26, op := Op.move (Operand.tmp 0), type := 60, pos := "l10_fit.go:149", after := #[{ on := 17, ground := Ground.guard }], guard := some (17, true) }) (v := undef) rfl (by kernel_rfl) (by kernel_rfl) (by kernel_rfl) (fun _ _ _ h => h) (Or.inr ⟨by rfl, rfl⟩) (by assumption) ?_
      try simp only [Act.put, List.setIfInBounds_toArray, List.set_cons_zero, List.set_cons_succ]
      refine wpAnyH_take (i := 20) (oi := { dst := some 27, op := Op.move (Operand.tmp 1), type := 3, pos := "l10_fit.go:149", after := #[{ on := 17, ground := Ground.guard }], guard := some (17, true) }) (v := undef) rfl (by kernel_rfl) (by kernel_rfl) (by kernel_rfl) (fun _ _ _ h => h) (Or.inr ⟨by rfl, rfl⟩) (by assumption) ?_
      try simp only [Act.put, List.setIfInBounds_toArray, List.set_cons_zero, List.set_cons_succ]
      refine wpAnyH_take (i := 21) (oi := { dst := some 28, op := Op.indexAddr 60 (Operand.tmp 26) (Operand.tmp 27), type := 0, pos := "l10_fit.go:149", after := #[{ on := 19, ground := Ground.data }, { on := 20, ground := Ground.data }, { on := 17, ground := Ground.guard }], guard := some (17, true) }) (v := undef) rfl (by kernel_rfl) (by kernel_rfl) (by kernel_rfl) (fun _ _ _ h => h) (Or.inr ⟨by rfl, rfl⟩) (by assumption) ?_
      try simp only [Act.put, List.setIfInBounds_toArray, List.set_cons_zero, List.set_cons_succ]
      refine wpAnyH_take (i := 22) (oi := { dst := some 29, op := Op.fieldAddr 31 (Operand.tmp 28) 2, type := 0, pos := "l10_fit.go:149", after := #[{ on := 21, ground := Ground.data }, { on := 17, ground := Ground.guard }], guard := some (17, true) }) (v := undef) rfl (by kernel_rfl) (by kernel_rfl) (by kernel_rfl) (fun _ _ _ h => h) (Or.inr ⟨by rfl, rfl⟩) (by assumption) ?_
      try simp only [Act.put, List.setIfInBounds_toArray, List.set_cons_zero, List.set_cons_succ]
      refine wpAnyH_take (i := 23) (oi := { dst := some 30, op := Op.load 3 (Operand.tmp 29), type := 3, pos := "l10_fit.go:149", after := #[{ on := 22, ground := Ground.data }, { on := 17, ground := Ground.guard }], guard := some (17, true) }) (v := undef) rfl (by kernel_rfl) (by kernel_rfl) (by kernel_rfl) (fun _ _ _ h => h) (Or.inr ⟨by rfl, rfl⟩) (by assumption) ?_
      try simp only [Act.put, List.setIfInBounds_toArray, List.set_cons_zero, List.set_cons_succ]
      refine wpAnyH_take (i := 24) (oi := { dst := some 31, op := Op.move (Operand.tmp 0), type := 60, pos := "l10_fit.go:149", after := #[{ on := 17, ground := Ground.guard }], guard := some (17, true) }) (v := undef) rfl (by kernel_rfl) (by kernel_rfl) (by kernel_rfl) (fun _ _ _ h => h) (Or.inr ⟨by rfl, rfl⟩) (by assumption) ?_
      try simp only [Act.put, List.setIfInBounds_toArray, List.set_cons_zero, List.set_cons_succ]
      refine wpAnyH_take (i := 25) (oi := { dst := some 32, op := Op.move (Operand.tmp 2), type := 3, pos := "l10_fit.go:149", after := #[{ on := 17, ground := Ground.guard }], guard := some (17, true) }) (v := undef) rfl (by kernel_rfl) (by kernel_rfl) (by kernel_rfl) (fun _ _ _ h => h) (Or.inr ⟨by rfl, rfl⟩) (by assumption) ?_
      try simp only [Act.put, List.setIfInBounds_toArray, List.set_cons_zero, List.set_cons_succ]
      refine wpAnyH_take (i := 26) (oi := { dst := some 33, op := Op.indexAddr 60 (Operand.tmp 31) (Operand.tmp 32), type := 0, pos := "l10_fit.go:149", after := #[{ on := 24, ground := Ground.data }, { on := 25, ground := Ground.data }, { on := 17, ground := Ground.guard }], guard := some (17, true) }) (v := undef) rfl (by kernel_rfl) (by kernel_rfl) (by kernel_rfl) (fun _ _ _ h => h) (Or.inr ⟨by rfl, rfl⟩) (by assumption) ?_
      try simp only [Act.put, List.setIfInBounds_toArray, List.set_cons_zero, List.set_cons_succ]
      refine wpAnyH_take (i := 27) (oi := { dst := some 34, op := Op.fieldAddr 31 (Operand.tmp 33) 2, type := 0, pos := "l10_fit.go:149", after := #[{ on := 26, ground := Ground.data }, { on := 17, ground := Ground.guard }], guard := some (17, true) }) (v := undef) rfl (by kernel_rfl) (by kernel_rfl) (by kernel_rfl) (fun _ _ _ h => h) (Or.inr ⟨by rfl, rfl⟩) (by assumption) ?_
      try simp only [Act.put, List.setIfInBounds_toArray, List.set_cons_zero, List.set_cons_succ]
      refine wpAnyH_take (i := 28) (oi := { dst := some 35, op := Op.load 3 (Operand.tmp 34), type := 3, pos := "l10_fit.go:149", after := #[{ on := 27, ground := Ground.data }, { on := 17, ground := Ground.guard }], guard := some (17, true) }) (v := undef) rfl (by kernel_rfl) (by kernel_rfl) (by kernel_rfl) (fun _ _ _ h => h) (Or.inr ⟨by rfl, rfl⟩) (by assumption) ?_
      try simp only [Act.put, List.setIfInBounds_toArray, List.set_cons_zero, List.set_cons_succ]
      refine wpAnyH_take (i := 29) (oi := { dst := some 36, op := Op.call { callee := Callee.value (Operand.func 47), args := #[Operand.tmp 25, Operand.tmp 30, Operand.tmp 35], argTypes := #[60, 3, 3] }, type := 4, pos := "l10_fit.go:151", after := #[{ on := 18, ground := Ground.data }, { on := 23, ground := Ground.data }, { on := 28, ground := Ground.data }, { on := 17, ground := Ground.chain }, { on := 17, ground := Ground.guard }], guard := some (17, true) }) (v := undef) rfl (by kernel_rfl) (by kernel_rfl) (by kernel_rfl) (fun _ _ _ h => h) (Or.inr ⟨by rfl, rfl⟩) (by assumption) ?_
      try simp only [Act.put, List.setIfInBounds_toArray, List.set_cons_zero, List.set_cons_succ]
      refine wpAnyH_take (i := 30) (oi := { dst := some 37, op := Op.pick (Operand.tmp 24) (Operand.tmp 36) (Operand.const (Value.bool false)), type := 4, pos := "l10_fit.go:149", after := #[{ on := 17, ground := Ground.data }, { on := 29, ground := Ground.data }], guard := none }) (v := .bool false) rfl (by kernel_rfl) (by kernel_rfl) (by kernel_rfl) (fun _ _ _ h => h) (Or.inl ⟨by rfl, ?_⟩) (by assumption) ?_
      · intro wS hSw
        try dsimp only at hSw
        go_simp
      try simp only [Act.put, List.setIfInBounds_toArray, List.set_cons_zero, List.set_cons_succ]
      refine wpAnyH_take (i := 31) (oi := { dst := some 6, op := Op.assign (Operand.tmp 37), type := 4, pos := "l10_fit.go:149", after := #[{ on := 30, ground := Ground.data }, { on := 29, ground := Ground.chain }, { on := 0, ground := Ground.phase }, { on := 1, ground := Ground.phase }, { on := 2, ground := Ground.phase }, { on := 3, ground := Ground.phase }, { on := 4, ground := Ground.phase }, { on := 5, ground := Ground.phase }, { on := 6, ground := Ground.phase }, { on := 7, ground := Ground.phase }, { on := 8, ground := Ground.phase }, { on := 9, ground := Ground.phase }, { on := 10, ground := Ground.phase }, { on := 11, ground := Ground.phase }, { on := 12, ground := Ground.phase }, { on := 13, ground := Ground.phase }, { on := 14, ground := Ground.phase }, { on := 15, ground := Ground.phase }, { on := 16, ground := Ground.phase }, { on := 17, ground := Ground.phase }, { on := 18, ground := Ground.phase }, { on := 19, ground := Ground.phase }, { on := 20, ground := Ground.phase }, { on := 21, ground := Ground.phase }, { on := 22, ground := Ground.phase }, { on := 23, ground := Ground.phase }, { on := 24, ground := Ground.phase }, { on := 25, ground := Ground.phase }, { on := 26, ground := Ground.phase }, { on := 27, ground := Ground.phase }, { on := 28, ground := Ground.phase }, { on := 29, ground := Ground.phase }, { on := 30, ground := Ground.phase }], guard := none }) (v := .bool false) rfl (by kernel_rfl) (by kernel_rfl) (by kernel_rfl) (fun _ _ _ h => h) (Or.inl ⟨by rfl, ?_⟩) (by assumption) ?_
      · intro wS hSw
        try dsimp only at hSw
        go_simp
      try simp only [Act.put, List.setIfInBounds_toArray, List.set_cons_zero, List.set_cons_succ]
      refine wpAnyH_done (by kernel_rfl) ?_ _
      --A>
      go_wp2_with fail
      go_ret
      exact ⟨_, rfl, ⟨fun h => (by cases h), fun h => absurd h Hv.out⟩, (Below.refl _ _).drew⟩
  · rw [decide_eq_false h] at Hb
    have Hv := Lib.hid (show ¬ arrQ t u from fun e => h ⟨e.1, e.2.1⟩)
    clear h
    go_wp2_with fail
    --B<
    refine wp_region_held_drew (S := fun w' => w'.cell? ⟨b, o + i * 6 + 1, none⟩ = some (.int .i64 t.fLong) ∧ w'.cell? ⟨b, o + j * 6 + 1, none⟩ = some (.int .i64 u.fLong)) (by kernel_rfl) ?_ (fun hHeld => ?_)
    · try dsimp only
      exact ⟨e1, g1⟩
    refine wpAnyH_take (i := 0) (oi := { dst := some 7, op := Op.move (Operand.tmp 0), type := 60, pos := "l10_fit.go:149", after := #[], guard := none }) (v := .slice (some ⟨b, o, none⟩) l.length c) rfl (by kernel_rfl) (by kernel_rfl) (by kernel_rfl) (fun _ _ _ h => h) (Or.inl ⟨by rfl, ?_⟩) (by assumption) ?_
    · intro wS hSw
      try dsimp only at hSw
      go_simp
    try simp only [Act.put, List.setIfInBounds_toArray, List.set_cons_zero, List.set_cons_succ]
    refine wpAnyH_take (i := 1) (oi := { dst := some 8, op := Op.move (Operand.tmp 1), type := 3, pos := "l10_fit.go:149", after := #[], guard := none }) (v := .int .i64 (i : Int)) rfl (by kernel_rfl) (by kernel_rfl) (by kernel_rfl) (fun _ _ _ h => h) (Or.inl ⟨by rfl, ?_⟩) (by assumption) ?_
    · intro wS hSw
      try dsimp only at hSw
      go_simp
    try simp only [Act.put, List.setIfInBounds_toArray, List.set_cons_zero, List.set_cons_succ]
    refine wpAnyH_take (i := 2) (oi := { dst := some 9, op := Op.move (Operand.tmp 2), type := 3, pos := "l10_fit.go:149", after := #[], guard := none }) (v := .int .i64 (j : Int)) rfl (by kernel_rfl) (by kernel_rfl) (by kernel_rfl) (fun _ _ _ h => h) (Or.inl ⟨by rfl, ?_⟩) (by assumption) ?_
    · intro wS hSw
      try dsimp only at hSw
      go_simp
    try simp only [Act.put, List.setIfInBounds_toArray, List.set_cons_zero, List.set_cons_succ]
    refine wpAnyH_ready (rs := [3]) (by kernel_rfl) (by simp) ?_
    refine AllReadyH.cons (o := { dst := some 10, op := Op.call { callee := Callee.value (Operand.func 85), args := #[Operand.tmp 7, Operand.const (Value.int IntKind.i64 4), Operand.tmp 8, Operand.tmp 9], argTypes := #[60, 3, 3, 3] }, type := 4, pos := "l10_fit.go:149", after := #[{ on := 0, ground := Ground.data }, { on := 1, ground := Ground.data }, { on := 2, ground := Ground.data }], guard := none }) rfl (fun K hK => ?_) AllReadyH.nil
    go_simp
    go_at_call 85
    refine (Hb.out _ Hr.out.drew).mono ?_
    rintro e w' ⟨rfl, rfl⟩
    refine hK.out _ _ ?_ (fun hHeld2 => ?_)
    · try dsimp only
      exact hHeld
    clear hK K hHeld
    have hHeld := hHeld2
    clear hHeld2
    try simp only [Act.put, List.setIfInBounds_toArray, List.set_cons_zero, List.set_cons_succ]
    refine wpAnyH_take (i := 4) (oi := { dst := some 11, op := Op.move (Operand.tmp 10), type := 4, pos := "l10_fit.go:149", after := #[{ on := 3, ground := Ground.data }, { on := 3, ground := Ground.chain }], guard := none }) (v := .bool false) rfl (by kernel_rfl) (by kernel_rfl) (by kernel_rfl) (fun _ _ _ h => h) (Or.inl ⟨by rfl, ?_⟩) (by assumption) ?_
    · intro wS hSw
      try dsimp only at hSw
      go_simp
    try simp only [Act.put, List.setIfInBounds_toArray, List.set_cons_zero, List.set_cons_succ]
    refine wpAnyH_take (i := 5) (oi := { dst := some 12, op := Op.move (Operand.tmp 0), type := 60, pos := "l10_fit.go:149", after := #[{ on := 4, ground := Ground.guard }], guard := some (4, true) }) (v := undef) rfl (by kernel_rfl) (by kernel_rfl) (by kernel_rfl) (fun _ _ _ h => h) (Or.inr ⟨by rfl, rfl⟩) (by assumption) ?_
    try simp only [Act.put, List.setIfInBounds_toArray, List.set_cons_zero, List.set_cons_succ]
    refine wpAnyH_take (i := 6) (oi := { dst := some 13, op := Op.move (Operand.tmp 1), type := 3, pos := "l10_fit.go:149", after := #[{ on := 4, ground := Ground.guard }], guard := some (4, true) }) (v := undef) rfl (by kernel_rfl) (by kernel_rfl) (by kernel_rfl) (fun _ _ _ h => h) (Or.inr ⟨by rfl, rfl⟩) (by assumption) ?_
    try simp only [Act.put, List.setIfInBounds_toArray, List.set_cons_zero, List.set_cons_succ]
    refine wpAnyH_take (i := 7) (oi := { dst := some 14, op := Op.indexAddr 60 (Operand.tmp 12) (Operand.tmp 13), type := 0, pos := "l10_fit.go:149", after := #[{ on := 5, ground := Ground.data }, { on := 6, ground := Ground.data }, { on := 4, ground := Ground.guard }], guard := some (4, true) }) (v := undef) rfl (by kernel_rfl) (by kernel_rfl) (by kernel_rfl) (fun _ _ _ h => h) (Or.inr ⟨by rfl, rfl⟩) (by assumption) ?_
    try simp only [Act.put, List.setIfInBounds_toArray, List.set_cons_zero, List.set_cons_succ]
    refine wpAnyH_take (i := 8) (oi := { dst := some 15, op := Op.fieldAddr 31 (Operand.tmp 14) 1, type := 0, pos := "l10_fit.go:149", after := #[{ on := 7, ground := Ground.data }, { on := 4, ground := Ground.guard }], guard := some (4, true) }) (v := undef) rfl (by kernel_rfl) (by kernel_rfl) (by kernel_rfl) (fun _ _ _ h => h) (Or.inr ⟨by rfl, rfl⟩) (by assumption) ?_
    try simp only [Act.put, List.setIfInBounds_toArray, List.set_cons_zero, List.set_cons_succ]
    refine wpAnyH_take (i := 9) (oi := { dst := some 16, op := Op.load 3 (Operand.tmp 15), type := 3, pos := "l10_fit.go:149", after := #[{ on := 8, ground := Ground.data }, { on := 4, ground := Ground.guard }], guard := some (4, true) }) (v := undef) rfl (by kernel_rfl) (by kernel_rfl) (by kernel_rfl) (fun _ _ _ h => h) (Or.inr ⟨by rfl, rfl⟩) (by assumption) ?_
    try simp only [Act.put, List.setIfInBounds_toArray, List.set_cons_zero, List.set_cons_succ]
    refine wpAnyH_take (i := 10) (oi := { dst := some 17, op := Op.move (Operand.tmp 0), type := 60, pos := "l10_fit.go:149", after := #[{ on := 4, ground := Ground.guard }], guard := some (4, true) }) (v := undef) rfl (by kernel_rfl) (by kernel_rfl) (by kernel_rfl) (fun _ _ _ h => h) (Or.inr ⟨by rfl, rfl⟩) (by assumption) ?_
    try simp only [Act.put, List.setIfInBounds_toArray, List.set_cons_zero, List.set_cons_succ]
    refine wpAnyH_take (i := 11) (oi := { dst := some 18, op := Op.move (Operand.tmp 2), type := 3, pos := "l10_fit.go:149", after := #[{ on := 4, ground := Ground.guard }], guard := some (4, true) }) (v := undef) rfl (by kernel_rfl) (by kernel_rfl) (by kernel_rfl) (fun _ _ _ h => h) (Or.inr ⟨by rfl, rfl⟩) (by assumption) ?_
    try simp only [Act.put, List.setIfInBounds_toArray, List.set_cons_zero, List.set_cons_succ]
    refine wpAnyH_take (i := 12) (oi := { dst := some 19, op := Op.indexAddr 60 (Operand.tmp 17) (Operand.tmp 18), type := 0, pos := "l10_fit.go:149", after := #[{ on := 10, ground := Ground.data }, { on := 11, ground := Ground.data }, { on := 4, ground := Ground.guard }], guard := some (4, true) }) (v := undef) rfl (by kernel_rfl) (by kernel_rfl) (by kernel_rfl) (fun _ _ _ h => h) (Or.inr ⟨by rfl, rfl⟩) (by assumption) ?_
    try simp only [Act.put, List.setIfInBounds_toArray, List.set_cons_zero, List.set_cons_succ]
    refine wpAnyH_take (i := 13) (oi := { dst := some 20, op := Op.fieldAddr 31 (Operand.tmp 19) 1, type := 0, pos := "l10_fit.go:149", after := #[{ on := 12, ground := Ground.data }, { on := 4, ground := Ground.guard }], guard := some (4, true) }) (v := undef) rfl (by kernel_rfl) (by kernel_rfl) (by kernel_rfl) (fun _ _ _ h => h) (Or.inr ⟨by rfl, rfl⟩) (by assumption) ?_
    try simp only [Act.put, List.setIfInBounds_toArray, List.set_cons_zero, List.set_cons_succ]
    refine wpAnyH_take (i := 14) (oi := { dst := some 21, op := Op.load 3 (Operand.tmp 20), type := 3, pos := "l10_fit.go:149", after := #[{ on := 13, ground := Ground.data }, { on := 4, ground := Ground.guard }], guard := some (4, true) }) (v := undef) rfl (by kernel_rfl) (by kernel_rfl) (by kernel_rfl) (fun _ _ _ h => h) (Or.inr ⟨by rfl, rfl⟩) (by assumption) ?_
    try simp only [Act.put, List.setIfInBounds_toArray, List.set_cons_zero, List.set_cons_succ]
    refine wpAnyH_take (i := 15) (oi := { dst := some 22, op := Op.binOp BinOp.eql 3 (Operand.tmp 16) (Operand.tmp 21) 3, type := 4, pos := "l10_fit.go:149", after := #[{ on := 9, ground := Ground.data }, { on := 14, ground := Ground.data }, { on := 4, ground := Ground.guard }], guard := some (4, true) }) (v := undef) rfl (by kernel_rfl) (by kernel_rfl) (by kernel_rfl) (fun _ _ _ h => h) (Or.inr ⟨by rfl, rfl⟩) (by assumption) ?_
    try simp only [Act.put, List.setIfInBounds_toArray, List.set_cons_zero, List.set_cons_succ]
    refine wpAnyH_take (i := 16) (oi := { dst := some 23, op := Op.pick (Operand.tmp 11) (Operand.tmp 22) (Operand.const (Value.bool false)), type := 4, pos := "l10_fit.go:149", after := #[{ on := 4, ground := Ground.data }, { on := 15, ground := Ground.data }], guard := none }) (v := .bool false) rfl (by kernel_rfl) (by kernel_rfl) (by kernel_rfl) (fun _ _ _ h => h) (Or.inl ⟨by rfl, ?_⟩) (by assumption) ?_
    · intro wS hSw
      try dsimp only at hSw
      go_simp
    try simp only [Act.put, List.setIfInBounds_toArray, List.set_cons_zero, List.set_cons_succ]
    refine wpAnyH_take (i := 17) (oi := { dst := some 24, op := Op.move (Operand.tmp 23), type := 4, pos := "l10_fit.go:149", after := #[{ on := 16, ground := Ground.data }, { on := 4, ground := Ground.chain }], guard := none }) (v := .bool false) rfl (by kernel_rfl) (by kernel_rfl) (by kernel_rfl) (fun _ _ _ h => h) (Or.inl ⟨by rfl, ?_⟩) (by assumption) ?_
    · intro wS hSw
      try dsimp only at hSw
      go_simp
    try simp only [Act.put, List.setIfInBounds_toArray, List.set_cons_zero, List.set_cons_succ]
    refine wpAnyH_take (i := 18) (oi := { dst := some 25, op := Op.move (Operand.tmp 0), type := 60, pos := "l10_fit.go:149", after := #[{ on := 17, ground := Ground.guard }], guard := some (17, true) }) (v := undef) rfl (by kernel_rfl) (by kernel_rfl) (by kernel_rfl) (fun _ _ _ h => h) (Or.inr ⟨by rfl, rfl⟩) (by assumption) ?_
    try simp only [Act.put, List.setIfInBounds_toArray, List.set_cons_zero, List.set_cons_succ]
    refine wpAnyH_take (i := 19) (oi := { dst := some 26, op := Op.move (Operand.tmp 0), type := 60, pos := "l10_fit.go:149", after := #[{ on := 17, ground := Ground.guard }], guard := some (17, true) }) (v := undef) rfl (by kernel_rfl) (by kernel_rfl) (by kernel_rfl) (fun _ _ _ h => h) (Or.inr ⟨by rfl, rfl⟩) (by assumption) ?_
    try simp only [Act.put, List.setIfInBounds_toArray, List.set_cons_zero, List.set_cons_succ]
    refine wpAnyH_take (i := 20) (oi := { dst := some 27, op := Op.move (Operand.tmp 1), type := 3, pos := "l10_fit.go:149", after := #[{ on := 17, ground := Ground.guard }], guard := some (17, true) }) (v := undef) rfl (by kernel_rfl) (by kernel_rfl) (by kernel_rfl) (fun _ _ _ h => h) (Or.inr ⟨by rfl, rfl⟩) (by assumption) ?_
    try simp only [Act.put, List.setIfInBounds_toArray, List.set_cons_zero, List.set_cons_succ]
    refine wpAnyH_take (i := 21) (oi := { dst := some 28, op := Op.indexAddr 60 (Operand.tmp 26) (Operand.tmp 27), type := 0, pos := "l10_fit.go:149", after := #[{ on := 19, ground := Ground.data }, { on := 20, ground := Ground.data }, { on := 17, ground := Ground.guard }], guard := some (17, true) }) (v := undef) rfl (by kernel_rfl) (by kernel_rfl) (by kernel_rfl) (fun _ _ _ h => h) (Or.inr ⟨by rfl, rfl⟩) (by assumption) ?_
    try simp only [Act.put, List.setIfInBounds_toArray, List.set_cons_zero, List.set_cons_succ]
    refine wpAnyH_take (i := 22) (oi := { dst := some 29, op := Op.fieldAddr 31 (Operand.tmp 28) 2, type := 0, pos := "l10_fit.go:149", after := #[{ on := 21, ground := Ground.data }, { on := 17, ground := Ground.guard }], guard := some (17, true) }) (v := undef) rfl (by kernel_rfl) (by kernel_rfl) (by kernel_rfl) (fun _ _ _ h => h) (Or.inr ⟨by rfl, rfl⟩) (by assumption) ?_
    try simp only [Act.put, List.setIfInBounds_toArray, List.set_cons_zero, List.set_cons_succ]
    refine wpAnyH_take (i := 23) (oi := { dst := some 30, op := Op.load 3 (Operand.tmp 29), type := 3, pos := "l10_fit.go:149", after := #[{ on := 22, ground := Ground.data }, { on := 17, ground := Ground.guard }], guard := some (17, true) }) (v := undef) rfl (by kernel_rfl) (by kernel_rfl) (by kernel_rfl) (fun _ _ _ h => h) (Or.inr ⟨by rfl, rfl⟩) (by assumption) ?_
    try simp only [Act.put, List.setIfInBounds_toArray, List.set_cons_zero, List.set_cons_succ]
    refine wpAnyH_take (i := 24) (oi := { dst := some 31, op := Op.move (Operand.tmp 0), type := 60, pos := "l10_fit.go:149", after := #[{ on := 17, ground := Ground.guard }], guard := some (17, true) }) (v := undef) rfl (by kernel_rfl) (by kernel_rfl) (by kernel_rfl) (fun _ _ _ h => h) (Or.inr ⟨by rfl, rfl⟩) (by assumption) ?_
    try simp only [Act.put, List.setIfInBounds_toArray, List.set_cons_zero, List.set_cons_succ]
    refine wpAnyH_take (i := 25) (oi := { dst := some 32, op := Op.move (Operand.tmp 2), type := 3, pos := "l10_fit.go:149", after := #[{ on := 17, ground := Ground.guard }], guard := some (17, true) }) (v := undef) rfl (by kernel_rfl) (by kernel_rfl) (by kernel_rfl) (fun _ _ _ h => h) (Or.inr ⟨by rfl, rfl⟩) (by assumption) ?_
    try simp only [Act.put, List.setIfInBounds_toArray, List.set_cons_zero, List.set_cons_succ]
    refine wpAnyH_take (i := 26) (oi := { dst := some 33, op := Op.indexAddr 60 (Operand.tmp 31) (Operand.tmp 32), type := 0, pos := "l10_fit.go:149", after := #[{ on := 24, ground := Ground.data }, { on := 25, ground := Ground.data }, { on := 17, ground := Ground.guard }], guard := some (17, true) }) (v := undef) rfl (by kernel_rfl) (by kernel_rfl) (by kernel_rfl) (fun _ _ _ h => h) (Or.inr ⟨by rfl, rfl⟩) (by assumption) ?_
    try simp only [Act.put, List.setIfInBounds_toArray, List.set_cons_zero, List.set_cons_succ]
    refine wpAnyH_take (i := 27) (oi := { dst := some 34, op := Op.fieldAddr 31 (Operand.tmp 33) 2, type := 0, pos := "l10_fit.go:149", after := #[{ on := 26, ground := Ground.data }, { on := 17, ground := Ground.guard }], guard := some (17, true) }) (v := undef) rfl (by kernel_rfl) (by kernel_rfl) (by kernel_rfl) (fun _ _ _ h => h) (Or.inr ⟨by rfl, rfl⟩) (by assumption) ?_
    try simp only [Act.put, List.setIfInBounds_toArray, List.set_cons_zero, List.set_cons_succ]
    refine wpAnyH_take (i := 28) (oi := { dst := some 35, op := Op.load 3 (Operand.tmp 34), type := 3, pos := "l10_fit.go:149", after := #[{ on := 27, ground := Ground.data }, { on := 17, ground := Ground.guard }], guard := some (17, true) }) (v := undef) rfl (by kernel_rfl) (by kernel_rfl) (by kernel_rfl) (fun _ _ _ h => h) (Or.inr ⟨by rfl, rfl⟩) (by assumption) ?_
    try simp only [Act.put, List.setIfInBounds_toArray, List.set_cons_zero, List.set_cons_succ]
    refine wpAnyH_take (i := 29) (oi := { dst := some 36, op := Op.call { callee := Callee.value (Operand.func 47), args := #[Operand.tmp 25, Operand.tmp 30, Operand.tmp 35], argTypes := #[60, 3, 3] }, type := 4, pos := "l10_fit.go:151", after := #[{ on := 18, ground := Ground.data }, { on := 23, ground := Ground.data }, { on := 28, ground := Ground.data }, { on := 17, ground := Ground.chain }, { on := 17, ground := Ground.guard }], guard := some (17, true) }) (v := undef) rfl (by kernel_rfl) (by kernel_rfl) (by kernel_rfl) (fun _ _ _ h => h) (Or.inr ⟨by rfl, rfl⟩) (by assumption) ?_
    try simp only [Act.put, List.setIfInBounds_toArray, List.set_cons_zero, List.set_cons_succ]
    refine wpAnyH_take (i := 30) (oi := { dst := some 37, op := Op.pick (Operand.tmp 24) (Operand.tmp 36) (Operand.const (Value.bool false)), type := 4, pos := "l10_fit.go:149", after := #[{ on := 17, ground := Ground.data }, { on := 29, ground := Ground.data }], guard := none }) (v := .bool false) rfl (by kernel_rfl) (by kernel_rfl) (by kernel_rfl) (fun _ _ _ h => h) (Or.inl ⟨by rfl, ?_⟩) (by assumption) ?_
    · intro wS hSw
      try dsimp only at hSw
      go_simp
    try simp only [Act.put, List.setIfInBounds_toArray, List.set_cons_zero, List.set_cons_succ]
    refine wpAnyH_take (i := 31) (oi := { dst := some 6, op := Op.assign (Operand.tmp 37), type := 4, pos := "l10_fit.go:149", after := #[{ on := 30, ground := Ground.data }, { on := 29, ground := Ground.chain }, { on := 0, ground := Ground.phase }, { on := 1, ground := Ground.phase }, { on := 2, ground := Ground.phase }, { on := 3, ground := Ground.phase }, { on := 4, ground := Ground.phase }, { on := 5, ground := Ground.phase }, { on := 6, ground := Ground.phase }, { on := 7, ground := Ground.phase }, { on := 8, ground := Ground.phase }, { on := 9, ground := Ground.phase }, { on := 10, ground := Ground.phase }, { on := 11, ground := Ground.phase }, { on := 12, ground := Ground.phase }, { on := 13, ground := Ground.phase }, { on := 14, ground := Ground.phase }, { on := 15, ground := Ground.phase }, { on := 16, ground := Ground.phase }, { on := 17, ground := Ground.phase }, { on := 18, ground := Ground.phase }, { on := 19, ground := Ground.phase }, { on := 20, ground := Ground.phase }, { on := 21, ground := Ground.phase }, { on := 22, ground := Ground.phase }, { on := 23, ground := Ground.phase }, { on := 24, ground := Ground.phase }, { on := 25, ground := Ground.phase }, { on := 26, ground := Ground.phase }, { on := 27, ground := Ground.phase }, { on := 28, ground := Ground.phase }, { on := 29, ground := Ground.phase }, { on := 30, ground := Ground.phase }], guard := none }) (v := .bool false) rfl (by kernel_rfl) (by kernel_rfl) (by kernel_rfl) (fun _ _ _ h => h) (Or.inl ⟨by rfl, ?_⟩) (by assumption) ?_
    · intro wS hSw
      try dsimp only at hSw
      go_simp
    try simp only [Act.put, List.setIfInBounds_toArray, List.set_cons_zero, List.set_cons_succ]
    refine wpAnyH_done (by kernel_rfl) ?_ _
    --B>
    go_wp2_with fail
    go_ret
    exact ⟨_, rfl, ⟨fun h => (by cases h), fun h => absurd h Hv.out⟩, (Below.refl _ _).drew⟩
end Go.Proofs.Ytnhdijkaakjdgaa
