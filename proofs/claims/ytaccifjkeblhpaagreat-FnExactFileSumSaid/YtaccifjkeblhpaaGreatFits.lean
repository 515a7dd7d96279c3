
/-
  What is proved: contracts of the model's l7Maybe, l7Named, l7ObjectFits, l7TypeFits and l7Type. No condition beside what each theorem states.
-/
import Derived.Test.YtaccifjkeblhpaaGreatWriteB
import Derived.Deep.RegionHeld3
namespace Go.Proofs.YtaccifjkeblhpaaGreat
open Go.ChangeShapes Go.WideShapes Go.ChangeAt Go.RowKit
set_option maxRecDepth 100000
theorem pA {α : Type} (l : List α) (i : Nat) (a : α) : l.toArray.setIfInBounds i a = (l.set i a).toArray := List.setIfInBounds_toArray l i a
theorem pB {α : Type} (x : α) (xs : List α) (a : α) : (x :: xs).set 0 a = a :: xs := rfl
theorem pC {α : Type} (x : α) (xs : List α) (n : Nat) (a : α) : (x :: xs).set (n + 1) a = x :: xs.set n a := rfl
section
variable {P : Program} {md : Region.Mode} {ops : Array Oper} {Q : Exit → Act → World → Prop} {S : World → Prop} {i fuel : Nat} {D : Option Tmp} {O : Op} {T : TypeId} {G : String} {E : Array Edge} {Y : Option (Nat × Bool)} {v : Value} {listed : Array Bool} {a : Act} {w : World}
theorem tkP (hi : ops[i]? = some ⟨D, O, T, G, E, Y⟩) (h : wpAnyH P md ops Q S fuel (listed.setIfInBounds i true) (a.put D v) w) (hy : YieldsIf P ops S ⟨D, O, T, G, E, Y⟩ v a := by exact Or.inl ⟨by rfl, by intro wS hSw; (try dsimp only at hSw); go_simp⟩) (hs : Region.noSelect ops = true := by kernel_rfl) (hf : Region.free md ops listed i = true := by kernel_rfl) (hr : (Region.ready md ops listed).contains i = true := by kernel_rfl) (hQ : ∀ c a w, Q (.panic c) (a.put D v) w → Q (.panic c) a w := by exact fun _ _ _ h => h) (hS : S w := by assumption) : wpAnyH P md ops Q S (fuel + 1) listed a w := wpAnyH_take hi hs hf hr hQ hy hS h
theorem tkS (hi : ops[i]? = some ⟨D, O, T, G, E, Y⟩) (h : wpAnyH P md ops Q S fuel (listed.setIfInBounds i true) (a.put D undef) w) (hy : YieldsIf P ops S ⟨D, O, T, G, E, Y⟩ undef a := by exact Or.inr ⟨by rfl, rfl⟩) (hs : Region.noSelect ops = true := by kernel_rfl) (hf : Region.free md ops listed i = true := by kernel_rfl) (hr : (Region.ready md ops listed).contains i = true := by kernel_rfl) (hQ : ∀ c a w, Q (.panic c) (a.put D undef) w → Q (.panic c) a w := by exact fun _ _ _ h => h) (hS : S w := by assumption) : wpAnyH P md ops Q S (fuel + 1) listed a w := wpAnyH_take hi hs hf hr hQ hy hS h
theorem tkC (hi : ops[i]? = some ⟨D, O, T, G, E, Y⟩) (hy : YieldsIf P ops S ⟨D, O, T, G, E, Y⟩ v a) (h : wpAnyH P md ops Q S fuel (listed.setIfInBounds i true) (a.put D v) w) (hs : Region.noSelect ops = true := by kernel_rfl) (hf : Region.free md ops listed i = true := by kernel_rfl) (hr : (Region.ready md ops listed).contains i = true := by kernel_rfl) (hQ : ∀ c a w, Q (.panic c) (a.put D v) w → Q (.panic c) a w := by exact fun _ _ _ h => h) (hS : S w := by assumption) : wpAnyH P md ops Q S (fuel + 1) listed a w := wpAnyH_take hi hs hf hr hQ hy hS h
theorem rdC {rs : List Nat} (ho : ops[i]? = some ⟨D, O, T, G, E, Y⟩)
    (h : ∀ K' : Act → World → Prop, Shut (∀ a w, S w → (S w → wpAnyH P md ops Q S fuel (listed.setIfInBounds i true) a w) → K' a w) → if Region.wanted ⟨D, O, T, G, E, Y⟩ (yielded ops a.tmps) = true then Oper.wp P ⟨D, O, T, G, E, Y⟩ a w K' Q else K' (a.put D undef) w)
    (hs : AllReadyH P md ops Q S fuel listed a w rs) : AllReadyH P md ops Q S fuel listed a w (i :: rs) := AllReadyH.cons ho h hs
end

theorem nameP_of {s : ByteArray} (h : nameB s = true) : nameP s := by
  by_cases hp : nameP s
  · exact hp
  · rw [nameB_false hp] at h
    cases h
theorem sNamed (s : ByteArray) (w : World) (h : mayB s = true) : Calls Tryz.prog 131 #[.string s] w fun e w' => e = .returned (.string (mayPart s)) ∧ Below w.heap.size w w' := by
  cases he : s.toList.isEmpty
  · have hn : nameP s := nameP_of (by unfold mayB at h; rw [he] at h; simpa using h)
    have HN := Lib.hid (fun w => sl1NameBytes s w hn.2.1)
    have Hm := Lib.hid (show mayPart s = nbytes s by unfold mayPart namePart; rw [he, if_pos hn]; rfl)
    clear h hn
    go_enter Tryz.func131, Tryz.ntmps131
    go_wp2_with fail
    refine (HN.out _).mono ?_
    rintro e w1 ⟨rfl, hb⟩
    go_wp2_with fail
    go_ret
    exact ⟨by rw [Hm.out]; rfl, hb⟩
  · have Hm := Lib.hid (show mayPart s = fzeroB by unfold mayPart; rw [he]; rfl)
    clear h
    go_enter Tryz.func131, Tryz.ntmps131
    go_wp2_with fail
    go_ret
    exact ⟨by rw [Hm.out]; rfl, Below.refl _ _⟩
theorem sNum7 (n : Int) (w : World) (h : wholeN n) : Calls Tryz.prog 91 #[.int .i64 n] w fun e w' => e = .returned (.string (numPart n)) ∧ Below w.heap.size w w' := by
  have hb := foldZ_bd h.1 h.2
  have := sl1NumBytes n (foldZ n).toNat w h.1 h.2 (by omega)
  unfold numPart
  rw [if_pos h]
  exact this
theorem sNameB7 (s : ByteArray) (w : World) (h : nameB s = true) : Calls Tryz.prog 90 #[.string s] w fun e w' => e = .returned (.string (namePart s)) ∧ Below w.heap.size w w' := by
  have hn := nameP_of h
  unfold namePart
  rw [if_pos hn]
  exact sl1NameBytes s w hn.2.1

theorem numIn_eq (lo hi n : Int) (h1 : -1000000000 ≤ lo) (h2 : hi ≤ 1000000000) : numIn lo hi n = inB lo hi n := by
  unfold numIn inB
  by_cases h : wholeN n
  · rw [decide_eq_true h, Bool.true_and]
  · rw [decide_eq_false h, Bool.false_and, Bool.false_and]
    unfold wholeN at h
    have : ¬ (lo ≤ n ∧ n ≤ hi) := by omega
    by_cases h3 : lo ≤ n
    · rw [decide_eq_false (show ¬ n ≤ hi from fun h4 => this ⟨h3, h4⟩), Bool.and_false]
    · rw [decide_eq_false h3, Bool.false_and]
theorem whole_in (n : Int) : decide (wholeN n) = inB (-1000000000) 1000000000 n := by
  unfold inB wholeN
  by_cases h1 : -1000000000 ≤ n <;> by_cases h2 : n ≤ 1000000000 <;> simp [h1, h2]
theorem each_eq {T : Type} (f : T → Bool) (most : Int) (hm : most ≤ 1000) (l : List T) : eachB f most l = (decide ((l.length : Int) ≤ most) && l.all f) := by
  unfold eachB
  by_cases h : (l.length : Int) ≤ most
  · rw [decide_eq_true (show wholeN (l.length : Int) from ⟨by omega, by omega⟩), decide_eq_true (show (0 : Int) ≤ (l.length : Int) by omega), decide_eq_true h]
    rfl
  · rw [decide_eq_false h, Bool.and_false]
theorem paramB_eq (t : ParamD) : paramB t = (nameB t.fName && inB 0 24 t.fType) := by
  unfold paramB
  rw [← numIn_eq 0 24 t.fType (by omega) (by omega)]
  rfl
theorem fieldB_eq (t : FieldD) : fieldB t = (inB 0 2 t.fMark && (mayB t.fName && inB 0 24 t.fType)) := by
  unfold fieldB
  rw [← numIn_eq 0 24 t.fType (by omega) (by omega)]
  rfl
theorem fobjB_eq {o : ObjectD} (h : o.fParams.all paramB = true) : fobjB o = (nameB o.fName && (inB 1 4 o.fKind && (inB 0 2 o.fMark && (inB (-1) 24 o.fType && (inB (-1000000000) 1000000000 o.fValue && decide ((o.fParams.length : Int) ≤ 4)))))) := by
  unfold fobjB
  rw [each_eq _ _ (by omega), h, numIn_eq _ _ _ (by omega) (by omega), whole_in, Bool.and_true]
  cases nameB o.fName <;> cases inB 1 4 o.fKind <;> cases inB 0 2 o.fMark <;> rfl
theorem ftypeB_eq {t : TypeD} (h : t.fFields.all fieldB = true) : ftypeB t = (inB 4 6 t.fKind && (inB 0 1000 t.fLong && (inB (-1) 24 t.fBase && (decide ((t.fFields.length : Int) ≤ 6) && (mayB t.fOwner && mayB t.fName))))) := by
  unfold ftypeB
  rw [each_eq _ _ (by omega), h, numIn_eq _ _ _ (by omega) (by omega), numIn_eq _ _ _ (by omega) (by omega), Bool.and_true]
  cases inB 4 6 t.fKind <;> cases inB 0 1000 t.fLong <;> cases inB (-1) 24 t.fBase <;> cases mayB t.fOwner <;> cases mayB t.fName <;> cases decide ((t.fFields.length : Int) ≤ 6) <;> rfl

end Go.Proofs.YtaccifjkeblhpaaGreat

namespace Go.Proofs.YtaccifjkeblhpaaGreat
open Go.ChangeShapes Go.WideShapes Go.ChangeAt Go.RowKit
set_option maxRecDepth 100000

theorem onceY {S G : Prop} (heavy : S) (rest : S → G) : G := rest heavy
theorem conv_box1 {W : World} {g : Nat} {x : Int} (h : Box W g 5 #[.int .u8 x]) : (convert 64 9 (.slice (some ⟨g, 0, none⟩) 1 1)).run Tryz.prog W = .ok (.string (strOfNums [x])) W :=
  run_convert_bytes_arg _ 64 5 Tryz.underlying64 Tryz.underlying5 g 0 1 1 [x] rfl (fun i hi => by
    rw [Nat.zero_add, h.cell]
    match i, hi with
    | 0, _ => rfl
    | n + 1, h => omega) 9 Tryz.underlying9
theorem wrap8y (n : Int) : IntKind.u8.wrap n = n % 256 := by simp [IntKind.wrap, IntKind.signed, IntKind.bits]
theorem cellY {w : World} {p : Addr} {v : Value} {o : Obj} (h : w.cell? p = some v) : (w.alloc o).cell? p = some v := (World.cell?_alloc_lt _ _ p (World.block_lt_of_cell? _ _ h)).trans h
theorem cellYb {W wc : World} {p : Addr} {v : Value} (hb : Below W.heap.size W wc) (h : W.cell? p = some v) : wc.cell? p = some v := (hb.cell (World.block_lt_of_cell? _ _ h)).trans h
theorem belowY {B : Nat} {w w' : World} (h : Below B w w') : Below B w w'.drew := ⟨h.os, h.tape, h.output, h.size, h.block⟩
/-- What stays in the midst. -/
def TypHeld (w : World) (t : TypeD) (a : Option Addr) (c : Nat) (w' : World) : Prop :=
  w'.cell? ⟨w.heap.size, 0, none⟩ = some (.int .i64 t.fKind) ∧ w'.cell? ⟨w.heap.size, 1, none⟩ = some (.int .i64 t.fLong) ∧ w'.cell? ⟨w.heap.size, 2, none⟩ = some (.int .i64 t.fBase) ∧ w'.cell? ⟨w.heap.size, 3, none⟩ = some (.slice a t.fFields.length c) ∧ w'.cell? ⟨w.heap.size, 4, none⟩ = some (.string t.fOwner) ∧ w'.cell? ⟨w.heap.size, 5, none⟩ = some (.string t.fName) ∧ Below w.heap.size w w'
def FldHeld (w : World) (f : Nat) (fn : ByteArray) (fm fy : Int) (t : TypeD) (a : Option Addr) (c : Nat) (w' : World) : Prop :=
  w'.cell? ⟨f, 0, none⟩ = some (.string fn) ∧ w'.cell? ⟨f, 1, none⟩ = some (.int .i64 fm) ∧ w'.cell? ⟨f, 2, none⟩ = some (.int .i64 fy) ∧ TypHeld w t a c w'
section
variable {w w' w'' : World} {t : TypeD} {a : Option Addr} {c f : Nat} {fn : ByteArray} {fm fy : Int}
theorem TypHeld.alloc (h : TypHeld w t a c w') (o : Obj) : TypHeld w t a c (w'.alloc o) := by
  obtain ⟨h0, h1, h2, h3, h4, h5, h6⟩ := h
  exact ⟨cellY h0, cellY h1, cellY h2, cellY h3, cellY h4, cellY h5, h6.alloc h6.size o⟩
theorem TypHeld.drew (h : TypHeld w t a c w') : TypHeld w t a c w'.drew := by
  obtain ⟨h0, h1, h2, h3, h4, h5, h6⟩ := h
  exact ⟨h0, h1, h2, h3, h4, h5, belowY h6⟩
theorem TypHeld.below (h : TypHeld w t a c w') (hb : Below w'.heap.size w' w'') : TypHeld w t a c w'' := by
  obtain ⟨h0, h1, h2, h3, h4, h5, h6⟩ := h
  exact ⟨cellYb hb h0, cellYb hb h1, cellYb hb h2, cellYb hb h3, cellYb hb h4, cellYb hb h5, h6.trans (hb.mono h6.size)⟩
theorem FldHeld.alloc (h : FldHeld w f fn fm fy t a c w') (o : Obj) : FldHeld w f fn fm fy t a c (w'.alloc o) := ⟨cellY h.1, cellY h.2.1, cellY h.2.2.1, h.2.2.2.alloc o⟩
theorem FldHeld.drew (h : FldHeld w f fn fm fy t a c w') : FldHeld w f fn fm fy t a c w'.drew := ⟨h.1, h.2.1, h.2.2.1, h.2.2.2.drew⟩
theorem FldHeld.below (h : FldHeld w f fn fm fy t a c w') (hb : Below w'.heap.size w' w'') : FldHeld w f fn fm fy t a c w'' := ⟨cellYb hb h.1, cellYb hb h.2.1, cellYb hb h.2.2.1, h.2.2.2.below hb⟩
end

set_option maxHeartbeats 32000000 in
theorem sl7Type (t : TypeD) (a : Option Addr) (c : Nat) (w : World) (hr : Rows fieldS Any w a t.fFields) (hok : ftypeB t = true) :
    Calls Tryz.prog 92 #[.agg #[.int .i64 t.fKind, .int .i64 t.fLong, .int .i64 t.fBase, .slice a t.fFields.length c, .string t.fOwner, .string t.fName]] w fun e w' => e = .returned (.string (typePart t)) ∧ Below w.heap.size w w' := by
  unfold ftypeB at hok
  simp only [Bool.and_eq_true] at hok
  obtain ⟨_, k1, k2, k3, k4, k6⟩ := hok
  have wl : wholeN t.fLong := by unfold numIn at k1; simp only [Bool.and_eq_true, decide_eq_true_eq] at k1; exact k1.1.1
  have wb : wholeN t.fBase := by unfold numIn at k2; simp only [Bool.and_eq_true, decide_eq_true_eq] at k2; exact k2.1.1
  unfold eachB at k6
  simp only [Bool.and_eq_true, decide_eq_true_eq] at k6
  obtain ⟨⟨⟨wn, _⟩, hl6⟩, hall⟩ := k6
  have Hall := Lib.hid hall
  have Hr := Lib.hid hr
  have H1 := Lib.hid (fun W => sNum7 t.fLong W wl)
  have H2 := Lib.hid (fun W => sNum7 t.fBase W wb)
  have H3 := Lib.hid (fun W => sNamed t.fOwner W k3)
  have H4 := Lib.hid (fun W => sNamed t.fName W k4)
  have H5 := Lib.hid (fun W => sNum7 (t.fFields.length : Int) W wn)
  have OH := Lib.hid (show TypHeld w t a c (w.alloc (.cells #[.int .i64 t.fKind, .int .i64 t.fLong, .int .i64 t.fBase, .slice a t.fFields.length c, .string t.fOwner, .string t.fName] 72)) from ⟨(Box.new _ _ _).cell 0, (Box.new _ _ _).cell 1, (Box.new _ _ _).cell 2, (Box.new _ _ _).cell 3, (Box.new _ _ _).cell 4, (Box.new _ _ _).cell 5, (Below.refl _ _).alloc (Nat.le_refl _) _⟩)
  clear k1 k2 k3 k4 hall hr wl wb wn
  have Fin := Lib.hid (show typePart t = strOfNums [IntKind.u8.wrap t.fKind] ++ numPart t.fLong ++ numPart t.fBase ++ mayPart t.fOwner ++ mayPart t.fName ++ numPart (t.fFields.length : Int) ++ catP fieldPart t.fFields by
    unfold typePart eachPart byteB
    rw [wrap8y, ba_assoc, ba_assoc, ba_assoc, ba_assoc, ba_assoc])
  have z1 := numPart_size t.fLong
  have z2 := numPart_size t.fBase
  have z3 := mayPart_size t.fOwner
  have z4 := mayPart_size t.fName
  have z5 := numPart_size (t.fFields.length : Int)
  have zA : (strOfNums [IntKind.u8.wrap t.fKind]).size = 1 := by rw [strOfNums_size]; rfl
  have KB := Lib.hid (fun W g (h : Box W g 5 #[.int .u8 (IntKind.u8.wrap t.fKind)]) => conv_box1 h)
  generalize strOfNums [IntKind.u8.wrap t.fKind] = PA at *
  generalize numPart t.fLong = P1 at *
  generalize numPart t.fBase = P2 at *
  generalize mayPart t.fOwner = P3 at *
  generalize mayPart t.fName = P4 at *
  generalize numPart (t.fFields.length : Int) = P5 at *
  have hz1 : ¬ 9223372036854775807 < PA.size + P1.size := by omega
  have hz2 : ¬ 9223372036854775807 < PA.size + P1.size + P2.size := by omega
  have hz3 : ¬ 9223372036854775807 < PA.size + P1.size + P2.size + P3.size := by omega
  have hz4 : ¬ 9223372036854775807 < PA.size + P1.size + P2.size + P3.size + P4.size := by omega
  have hz5 : ¬ 9223372036854775807 < PA.size + P1.size + P2.size + P3.size + P4.size + P5.size := by omega
  have hzz : (PA ++ P1 ++ P2 ++ P3 ++ P4 ++ P5).size ≤ 38 := by
    simp only [ByteArray.size_append]
    omega
  have ZZ := Lib.hid hzz
  clear zA z1 z2 z3 z4 z5 hzz
  go_enter Tryz.func92, Tryz.ntmps92
  go_wp2_with fail
  generalize w.alloc (.cells #[.int .i64 t.fKind, .int .i64 t.fLong, .int .i64 t.fBase, .slice a t.fFields.length c, .string t.fOwner, .string t.fName] 72) = wq at *
  apply onceY
  case rest =>
    intro key0
    have key := Lib.hid key0
    clear key0
    refine wp_region_held_drew (S := TypHeld w t a c) (by kernel_rfl) ?_ (fun hHeld => ?_)
    · exact OH.out.drew
    replace OH := Lib.hid OH.out.drew
    generalize wq.drew = wd at *
    refine tkP (i := 0) (v := .pointer (some ⟨w.heap.size, 0, none⟩)) rfl ?_
    try simp only [Act.put, pA, pB, pC]
    refine tkC (i := 1) (v := .int .i64 t.fKind) rfl (Or.inl ⟨by rfl, ?_⟩) ?_
    · intro wS hSw
      obtain ⟨h0, h1, h2, h3, h4, h5, h6⟩ := hSw
      go_simp
    try simp only [Act.put, pA, pB, pC]
    refine tkP (i := 2) (v := .int .u8 (IntKind.u8.wrap t.fKind)) rfl ?_
    try simp only [Act.put, pA, pB, pC]
    refine tkP (i := 5) (v := .pointer (some ⟨w.heap.size, 1, none⟩)) rfl ?_
    try simp only [Act.put, pA, pB, pC]
    refine tkC (i := 6) (v := .int .i64 t.fLong) rfl (Or.inl ⟨by rfl, ?_⟩) ?_
    · intro wS hSw
      obtain ⟨h0, h1, h2, h3, h4, h5, h6⟩ := hSw
      go_simp
    try simp only [Act.put, pA, pB, pC]
    refine tkP (i := 9) (v := .pointer (some ⟨w.heap.size, 2, none⟩)) rfl ?_
    try simp only [Act.put, pA, pB, pC]
    refine tkC (i := 10) (v := .int .i64 t.fBase) rfl (Or.inl ⟨by rfl, ?_⟩) ?_
    · intro wS hSw
      obtain ⟨h0, h1, h2, h3, h4, h5, h6⟩ := hSw
      go_simp
    try simp only [Act.put, pA, pB, pC]
    refine tkP (i := 13) (v := .pointer (some ⟨w.heap.size, 4, none⟩)) rfl ?_
    try simp only [Act.put, pA, pB, pC]
    refine tkC (i := 14) (v := .string t.fOwner) rfl (Or.inl ⟨by rfl, ?_⟩) ?_
    · intro wS hSw
      obtain ⟨h0, h1, h2, h3, h4, h5, h6⟩ := hSw
      go_simp
    try simp only [Act.put, pA, pB, pC]
    refine tkP (i := 17) (v := .pointer (some ⟨w.heap.size, 5, none⟩)) rfl ?_
    try simp only [Act.put, pA, pB, pC]
    refine tkC (i := 18) (v := .string t.fName) rfl (Or.inl ⟨by rfl, ?_⟩) ?_
    · intro wS hSw
      obtain ⟨h0, h1, h2, h3, h4, h5, h6⟩ := hSw
      go_simp
    try simp only [Act.put, pA, pB, pC]
    refine tkP (i := 21) (v := .pointer (some ⟨w.heap.size, 3, none⟩)) rfl ?_
    try simp only [Act.put, pA, pB, pC]
    refine tkC (i := 22) (v := .slice a t.fFields.length c) rfl (Or.inl ⟨by rfl, ?_⟩) ?_
    · intro wS hSw
      obtain ⟨h0, h1, h2, h3, h4, h5, h6⟩ := hSw
      go_simp
    try simp only [Act.put, pA, pB, pC]
    refine tkP (i := 23) (v := .int .i64 (t.fFields.length : Int)) rfl ?_
    try simp only [Act.put, pA, pB, pC]
    refine wpAnyH_ready (rs := [3, 7]) (by kernel_rfl) (by simp) ?_
    refine rdC rfl (fun K hK => ?_) (rdC rfl (fun K hK => ?_) AllReadyH.nil)
    · go_simp
      replace OH := Lib.hid (OH.out.alloc (.cells #[.int .u8 (IntKind.u8.wrap t.fKind)] 5))
      have BX := Lib.hid (Box.new wd 5 #[.int .u8 (IntKind.u8.wrap t.fKind)])
      obtain ⟨gx, hgx⟩ : ∃ z, z = wd.heap.size := ⟨_, rfl⟩
      rw [← hgx] at BX
      rw [← hgx]
      clear hgx
      generalize wd.alloc (.cells #[.int .u8 (IntKind.u8.wrap t.fKind)] 5) = wa at *
      refine hK.out _ _ ?_ (fun hHeld2 => ?_)
      · exact OH.out
      clear hK K hHeld
      have hHeld := hHeld2
      clear hHeld2
      try simp only [Act.put, pA, pB, pC]
      refine wpAnyH_ready (rs := [4, 7]) (by kernel_rfl) (by simp) ?_
      refine rdC rfl (fun K hK => ?_) (rdC rfl (fun K hK => ?_) AllReadyH.nil)
      · have kv := KB.out _ _ BX.out
        go_simp
        clear kv BX
        refine hK.out _ _ ?_ (fun hHeld2 => ?_)
        · exact OH.out
        clear hK K hHeld
        have hHeld := hHeld2
        clear hHeld2
        try simp only [Act.put, pA, pB, pC]
        refine wpAnyH_ready (rs := [7]) (by kernel_rfl) (by simp) ?_
        refine rdC rfl (fun K hK => ?_) AllReadyH.nil
        go_simp
        go_at_call 91
        refine (H1.out _).mono ?_
        rintro e wc0 ⟨rfl, hbc⟩
        replace OH := Lib.hid (OH.out.below hbc)
        clear hbc
        refine hK.out _ _ ?_ (fun hHeld2 => ?_)
        · exact OH.out
        clear hK K hHeld
        have hHeld := hHeld2
        clear hHeld2
        try simp only [Act.put, pA, pB, pC]
        refine tkP (i := 8) (v := .string (PA ++ P1)) rfl ?_
        try simp only [Act.put, pA, pB, pC]
        refine wpAnyH_ready (rs := [11]) (by kernel_rfl) (by simp) ?_
        refine rdC rfl (fun K hK => ?_) AllReadyH.nil
        go_simp
        go_at_call 91
        refine (H2.out _).mono ?_
        rintro e wc1 ⟨rfl, hbc⟩
        replace OH := Lib.hid (OH.out.below hbc)
        clear hbc
        refine hK.out _ _ ?_ (fun hHeld2 => ?_)
        · exact OH.out
        clear hK K hHeld
        have hHeld := hHeld2
        clear hHeld2
        try simp only [Act.put, pA, pB, pC]
        refine tkP (i := 12) (v := .string (PA ++ P1 ++ P2)) rfl ?_
        try simp only [Act.put, pA, pB, pC]
        refine wpAnyH_ready (rs := [15]) (by kernel_rfl) (by simp) ?_
        refine rdC rfl (fun K hK => ?_) AllReadyH.nil
        go_simp
        go_at_call 131
        refine (H3.out _).mono ?_
        rintro e wc2 ⟨rfl, hbc⟩
        replace OH := Lib.hid (OH.out.below hbc)
        clear hbc
        refine hK.out _ _ ?_ (fun hHeld2 => ?_)
        · exact OH.out
        clear hK K hHeld
        have hHeld := hHeld2
        clear hHeld2
        try simp only [Act.put, pA, pB, pC]
        refine tkP (i := 16) (v := .string (PA ++ P1 ++ P2 ++ P3)) rfl ?_
        try simp only [Act.put, pA, pB, pC]
        refine wpAnyH_ready (rs := [19]) (by kernel_rfl) (by simp) ?_
        refine rdC rfl (fun K hK => ?_) AllReadyH.nil
        go_simp
        go_at_call 131
        refine (H4.out _).mono ?_
        rintro e wc3 ⟨rfl, hbc⟩
        replace OH := Lib.hid (OH.out.below hbc)
        clear hbc
        refine hK.out _ _ ?_ (fun hHeld2 => ?_)
        · exact OH.out
        clear hK K hHeld
        have hHeld := hHeld2
        clear hHeld2
        try simp only [Act.put, pA, pB, pC]
        refine tkP (i := 20) (v := .string (PA ++ P1 ++ P2 ++ P3 ++ P4)) rfl ?_
        try simp only [Act.put, pA, pB, pC]
        refine wpAnyH_ready (rs := [24]) (by kernel_rfl) (by simp) ?_
        refine rdC rfl (fun K hK => ?_) AllReadyH.nil
        go_simp
        go_at_call 91
        refine (H5.out _).mono ?_
        rintro e wc4 ⟨rfl, hbc⟩
        replace OH := Lib.hid (OH.out.below hbc)
        clear hbc
        refine hK.out _ _ ?_ (fun hHeld2 => ?_)
        · exact OH.out
        clear hK K hHeld
        have hHeld := hHeld2
        clear hHeld2
        try simp only [Act.put, pA, pB, pC]
        refine tkP (i := 25) (v := .string (PA ++ P1 ++ P2 ++ P3 ++ P4 ++ P5)) rfl ?_
        try simp only [Act.put, pA, pB, pC]
        refine tkP (i := 26) (v := .string (PA ++ P1 ++ P2 ++ P3 ++ P4 ++ P5)) rfl ?_
        try simp only [Act.put, pA, pB, pC]
        refine wpAnyH_done (by kernel_rfl) ?_ _
        clear hHeld
        revert OH
        revert wc4
        revert gx
        exact key.out
      · go_simp
        go_at_call 91
        refine (H1.out _).mono ?_
        rintro e wc0 ⟨rfl, hbc⟩
        replace OH := Lib.hid (OH.out.below hbc)
        replace BX := Lib.hid (BX.out.below hbc BX.out.lt)
        clear hbc
        refine hK.out _ _ ?_ (fun hHeld2 => ?_)
        · exact OH.out
        clear hK K hHeld
        have hHeld := hHeld2
        clear hHeld2
        try simp only [Act.put, pA, pB, pC]
        refine wpAnyH_ready (rs := [4, 11]) (by kernel_rfl) (by simp) ?_
        refine rdC rfl (fun K hK => ?_) (rdC rfl (fun K hK => ?_) AllReadyH.nil)
        · have kv := KB.out _ _ BX.out
          go_simp
          clear kv BX
          refine hK.out _ _ ?_ (fun hHeld2 => ?_)
          · exact OH.out
          clear hK K hHeld
          have hHeld := hHeld2
          clear hHeld2
          try simp only [Act.put, pA, pB, pC]
          refine tkP (i := 8) (v := .string (PA ++ P1)) rfl ?_
          try simp only [Act.put, pA, pB, pC]
          refine wpAnyH_ready (rs := [11]) (by kernel_rfl) (by simp) ?_
          refine rdC rfl (fun K hK => ?_) AllReadyH.nil
          go_simp
          go_at_call 91
          refine (H2.out _).mono ?_
          rintro e wc1 ⟨rfl, hbc⟩
          replace OH := Lib.hid (OH.out.below hbc)
          clear hbc
          refine hK.out _ _ ?_ (fun hHeld2 => ?_)
          · exact OH.out
          clear hK K hHeld
          have hHeld := hHeld2
          clear hHeld2
          try simp only [Act.put, pA, pB, pC]
          refine tkP (i := 12) (v := .string (PA ++ P1 ++ P2)) rfl ?_
          try simp only [Act.put, pA, pB, pC]
          refine wpAnyH_ready (rs := [15]) (by kernel_rfl) (by simp) ?_
          refine rdC rfl (fun K hK => ?_) AllReadyH.nil
          go_simp
          go_at_call 131
          refine (H3.out _).mono ?_
          rintro e wc2 ⟨rfl, hbc⟩
          replace OH := Lib.hid (OH.out.below hbc)
          clear hbc
          refine hK.out _ _ ?_ (fun hHeld2 => ?_)
          · exact OH.out
          clear hK K hHeld
          have hHeld := hHeld2
          clear hHeld2
          try simp only [Act.put, pA, pB, pC]
          refine tkP (i := 16) (v := .string (PA ++ P1 ++ P2 ++ P3)) rfl ?_
          try simp only [Act.put, pA, pB, pC]
          refine wpAnyH_ready (rs := [19]) (by kernel_rfl) (by simp) ?_
          refine rdC rfl (fun K hK => ?_) AllReadyH.nil
          go_simp
          go_at_call 131
          refine (H4.out _).mono ?_
          rintro e wc3 ⟨rfl, hbc⟩
          replace OH := Lib.hid (OH.out.below hbc)
          clear hbc
          refine hK.out _ _ ?_ (fun hHeld2 => ?_)
          · exact OH.out
          clear hK K hHeld
          have hHeld := hHeld2
          clear hHeld2
          try simp only [Act.put, pA, pB, pC]
          refine tkP (i := 20) (v := .string (PA ++ P1 ++ P2 ++ P3 ++ P4)) rfl ?_
          try simp only [Act.put, pA, pB, pC]
          refine wpAnyH_ready (rs := [24]) (by kernel_rfl) (by simp) ?_
          refine rdC rfl (fun K hK => ?_) AllReadyH.nil
          go_simp
          go_at_call 91
          refine (H5.out _).mono ?_
          rintro e wc4 ⟨rfl, hbc⟩
          replace OH := Lib.hid (OH.out.below hbc)
          clear hbc
          refine hK.out _ _ ?_ (fun hHeld2 => ?_)
          · exact OH.out
          clear hK K hHeld
          have hHeld := hHeld2
          clear hHeld2
          try simp only [Act.put, pA, pB, pC]
          refine tkP (i := 25) (v := .string (PA ++ P1 ++ P2 ++ P3 ++ P4 ++ P5)) rfl ?_
          try simp only [Act.put, pA, pB, pC]
          refine tkP (i := 26) (v := .string (PA ++ P1 ++ P2 ++ P3 ++ P4 ++ P5)) rfl ?_
          try simp only [Act.put, pA, pB, pC]
          refine wpAnyH_done (by kernel_rfl) ?_ _
          clear hHeld
          revert OH
          revert wc4
          revert gx
          exact key.out
        · go_simp
          go_at_call 91
          refine (H2.out _).mono ?_
          rintro e wc1 ⟨rfl, hbc⟩
          replace OH := Lib.hid (OH.out.below hbc)
          replace BX := Lib.hid (BX.out.below hbc BX.out.lt)
          clear hbc
          refine hK.out _ _ ?_ (fun hHeld2 => ?_)
          · exact OH.out
          clear hK K hHeld
          have hHeld := hHeld2
          clear hHeld2
          try simp only [Act.put, pA, pB, pC]
          refine wpAnyH_ready (rs := [4, 15]) (by kernel_rfl) (by simp) ?_
          refine rdC rfl (fun K hK => ?_) (rdC rfl (fun K hK => ?_) AllReadyH.nil)
          · have kv := KB.out _ _ BX.out
            go_simp
            clear kv BX
            refine hK.out _ _ ?_ (fun hHeld2 => ?_)
            · exact OH.out
            clear hK K hHeld
            have hHeld := hHeld2
            clear hHeld2
            try simp only [Act.put, pA, pB, pC]
            refine tkP (i := 8) (v := .string (PA ++ P1)) rfl ?_
            try simp only [Act.put, pA, pB, pC]
            refine tkP (i := 12) (v := .string (PA ++ P1 ++ P2)) rfl ?_
            try simp only [Act.put, pA, pB, pC]
            refine wpAnyH_ready (rs := [15]) (by kernel_rfl) (by simp) ?_
            refine rdC rfl (fun K hK => ?_) AllReadyH.nil
            go_simp
            go_at_call 131
            refine (H3.out _).mono ?_
            rintro e wc2 ⟨rfl, hbc⟩
            replace OH := Lib.hid (OH.out.below hbc)
            clear hbc
            refine hK.out _ _ ?_ (fun hHeld2 => ?_)
            · exact OH.out
            clear hK K hHeld
            have hHeld := hHeld2
            clear hHeld2
            try simp only [Act.put, pA, pB, pC]
            refine tkP (i := 16) (v := .string (PA ++ P1 ++ P2 ++ P3)) rfl ?_
            try simp only [Act.put, pA, pB, pC]
            refine wpAnyH_ready (rs := [19]) (by kernel_rfl) (by simp) ?_
            refine rdC rfl (fun K hK => ?_) AllReadyH.nil
            go_simp
            go_at_call 131
            refine (H4.out _).mono ?_
            rintro e wc3 ⟨rfl, hbc⟩
            replace OH := Lib.hid (OH.out.below hbc)
            clear hbc
            refine hK.out _ _ ?_ (fun hHeld2 => ?_)
            · exact OH.out
            clear hK K hHeld
            have hHeld := hHeld2
            clear hHeld2
            try simp only [Act.put, pA, pB, pC]
            refine tkP (i := 20) (v := .string (PA ++ P1 ++ P2 ++ P3 ++ P4)) rfl ?_
            try simp only [Act.put, pA, pB, pC]
            refine wpAnyH_ready (rs := [24]) (by kernel_rfl) (by simp) ?_
            refine rdC rfl (fun K hK => ?_) AllReadyH.nil
            go_simp
            go_at_call 91
            refine (H5.out _).mono ?_
            rintro e wc4 ⟨rfl, hbc⟩
            replace OH := Lib.hid (OH.out.below hbc)
            clear hbc
            refine hK.out _ _ ?_ (fun hHeld2 => ?_)
            · exact OH.out
            clear hK K hHeld
            have hHeld := hHeld2
            clear hHeld2
            try simp only [Act.put, pA, pB, pC]
            refine tkP (i := 25) (v := .string (PA ++ P1 ++ P2 ++ P3 ++ P4 ++ P5)) rfl ?_
            try simp only [Act.put, pA, pB, pC]
            refine tkP (i := 26) (v := .string (PA ++ P1 ++ P2 ++ P3 ++ P4 ++ P5)) rfl ?_
            try simp only [Act.put, pA, pB, pC]
            refine wpAnyH_done (by kernel_rfl) ?_ _
            clear hHeld
            revert OH
            revert wc4
            revert gx
            exact key.out
          · go_simp
            go_at_call 131
            refine (H3.out _).mono ?_
            rintro e wc2 ⟨rfl, hbc⟩
            replace OH := Lib.hid (OH.out.below hbc)
            replace BX := Lib.hid (BX.out.below hbc BX.out.lt)
            clear hbc
            refine hK.out _ _ ?_ (fun hHeld2 => ?_)
            · exact OH.out
            clear hK K hHeld
            have hHeld := hHeld2
            clear hHeld2
            try simp only [Act.put, pA, pB, pC]
            refine wpAnyH_ready (rs := [4, 19]) (by kernel_rfl) (by simp) ?_
            refine rdC rfl (fun K hK => ?_) (rdC rfl (fun K hK => ?_) AllReadyH.nil)
            · have kv := KB.out _ _ BX.out
              go_simp
              clear kv BX
              refine hK.out _ _ ?_ (fun hHeld2 => ?_)
              · exact OH.out
              clear hK K hHeld
              have hHeld := hHeld2
              clear hHeld2
              try simp only [Act.put, pA, pB, pC]
              refine tkP (i := 8) (v := .string (PA ++ P1)) rfl ?_
              try simp only [Act.put, pA, pB, pC]
              refine tkP (i := 12) (v := .string (PA ++ P1 ++ P2)) rfl ?_
              try simp only [Act.put, pA, pB, pC]
              refine tkP (i := 16) (v := .string (PA ++ P1 ++ P2 ++ P3)) rfl ?_
              try simp only [Act.put, pA, pB, pC]
              refine wpAnyH_ready (rs := [19]) (by kernel_rfl) (by simp) ?_
              refine rdC rfl (fun K hK => ?_) AllReadyH.nil
              go_simp
              go_at_call 131
              refine (H4.out _).mono ?_
              rintro e wc3 ⟨rfl, hbc⟩
              replace OH := Lib.hid (OH.out.below hbc)
              clear hbc
              refine hK.out _ _ ?_ (fun hHeld2 => ?_)
              · exact OH.out
              clear hK K hHeld
              have hHeld := hHeld2
              clear hHeld2
              try simp only [Act.put, pA, pB, pC]
              refine tkP (i := 20) (v := .string (PA ++ P1 ++ P2 ++ P3 ++ P4)) rfl ?_
              try simp only [Act.put, pA, pB, pC]
              refine wpAnyH_ready (rs := [24]) (by kernel_rfl) (by simp) ?_
              refine rdC rfl (fun K hK => ?_) AllReadyH.nil
              go_simp
              go_at_call 91
              refine (H5.out _).mono ?_
              rintro e wc4 ⟨rfl, hbc⟩
              replace OH := Lib.hid (OH.out.below hbc)
              clear hbc
              refine hK.out _ _ ?_ (fun hHeld2 => ?_)
              · exact OH.out
              clear hK K hHeld
              have hHeld := hHeld2
              clear hHeld2
              try simp only [Act.put, pA, pB, pC]
              refine tkP (i := 25) (v := .string (PA ++ P1 ++ P2 ++ P3 ++ P4 ++ P5)) rfl ?_
              try simp only [Act.put, pA, pB, pC]
              refine tkP (i := 26) (v := .string (PA ++ P1 ++ P2 ++ P3 ++ P4 ++ P5)) rfl ?_
              try simp only [Act.put, pA, pB, pC]
              refine wpAnyH_done (by kernel_rfl) ?_ _
              clear hHeld
              revert OH
              revert wc4
              revert gx
              exact key.out
            · go_simp
              go_at_call 131
              refine (H4.out _).mono ?_
              rintro e wc3 ⟨rfl, hbc⟩
              replace OH := Lib.hid (OH.out.below hbc)
              replace BX := Lib.hid (BX.out.below hbc BX.out.lt)
              clear hbc
              refine hK.out _ _ ?_ (fun hHeld2 => ?_)
              · exact OH.out
              clear hK K hHeld
              have hHeld := hHeld2
              clear hHeld2
              try simp only [Act.put, pA, pB, pC]
              refine wpAnyH_ready (rs := [4, 24]) (by kernel_rfl) (by simp) ?_
              refine rdC rfl (fun K hK => ?_) (rdC rfl (fun K hK => ?_) AllReadyH.nil)
              · have kv := KB.out _ _ BX.out
                go_simp
                clear kv BX
                refine hK.out _ _ ?_ (fun hHeld2 => ?_)
                · exact OH.out
                clear hK K hHeld
                have hHeld := hHeld2
                clear hHeld2
                try simp only [Act.put, pA, pB, pC]
                refine tkP (i := 8) (v := .string (PA ++ P1)) rfl ?_
                try simp only [Act.put, pA, pB, pC]
                refine tkP (i := 12) (v := .string (PA ++ P1 ++ P2)) rfl ?_
                try simp only [Act.put, pA, pB, pC]
                refine tkP (i := 16) (v := .string (PA ++ P1 ++ P2 ++ P3)) rfl ?_
                try simp only [Act.put, pA, pB, pC]
                refine tkP (i := 20) (v := .string (PA ++ P1 ++ P2 ++ P3 ++ P4)) rfl ?_
                try simp only [Act.put, pA, pB, pC]
                refine wpAnyH_ready (rs := [24]) (by kernel_rfl) (by simp) ?_
                refine rdC rfl (fun K hK => ?_) AllReadyH.nil
                go_simp
                go_at_call 91
                refine (H5.out _).mono ?_
                rintro e wc4 ⟨rfl, hbc⟩
                replace OH := Lib.hid (OH.out.below hbc)
                clear hbc
                refine hK.out _ _ ?_ (fun hHeld2 => ?_)
                · exact OH.out
                clear hK K hHeld
                have hHeld := hHeld2
                clear hHeld2
                try simp only [Act.put, pA, pB, pC]
                refine tkP (i := 25) (v := .string (PA ++ P1 ++ P2 ++ P3 ++ P4 ++ P5)) rfl ?_
                try simp only [Act.put, pA, pB, pC]
                refine tkP (i := 26) (v := .string (PA ++ P1 ++ P2 ++ P3 ++ P4 ++ P5)) rfl ?_
                try simp only [Act.put, pA, pB, pC]
                refine wpAnyH_done (by kernel_rfl) ?_ _
                clear hHeld
                revert OH
                revert wc4
                revert gx
                exact key.out
              · go_simp
                go_at_call 91
                refine (H5.out _).mono ?_
                rintro e wc4 ⟨rfl, hbc⟩
                replace OH := Lib.hid (OH.out.below hbc)
                replace BX := Lib.hid (BX.out.below hbc BX.out.lt)
                clear hbc
                refine hK.out _ _ ?_ (fun hHeld2 => ?_)
                · exact OH.out
                clear hK K hHeld
                have hHeld := hHeld2
                clear hHeld2
                try simp only [Act.put, pA, pB, pC]
                refine wpAnyH_ready (rs := [4]) (by kernel_rfl) (by simp) ?_
                refine rdC rfl (fun K hK => ?_) AllReadyH.nil
                have kv := KB.out _ _ BX.out
                go_simp
                clear kv BX
                refine hK.out _ _ ?_ (fun hHeld2 => ?_)
                · exact OH.out
                clear hK K hHeld
                have hHeld := hHeld2
                clear hHeld2
                try simp only [Act.put, pA, pB, pC]
                refine tkP (i := 8) (v := .string (PA ++ P1)) rfl ?_
                try simp only [Act.put, pA, pB, pC]
                refine tkP (i := 12) (v := .string (PA ++ P1 ++ P2)) rfl ?_
                try simp only [Act.put, pA, pB, pC]
                refine tkP (i := 16) (v := .string (PA ++ P1 ++ P2 ++ P3)) rfl ?_
                try simp only [Act.put, pA, pB, pC]
                refine tkP (i := 20) (v := .string (PA ++ P1 ++ P2 ++ P3 ++ P4)) rfl ?_
                try simp only [Act.put, pA, pB, pC]
                refine tkP (i := 25) (v := .string (PA ++ P1 ++ P2 ++ P3 ++ P4 ++ P5)) rfl ?_
                try simp only [Act.put, pA, pB, pC]
                refine tkP (i := 26) (v := .string (PA ++ P1 ++ P2 ++ P3 ++ P4 ++ P5)) rfl ?_
                try simp only [Act.put, pA, pB, pC]
                refine wpAnyH_done (by kernel_rfl) ?_ _
                clear hHeld
                revert OH
                revert wc4
                revert gx
                exact key.out
    · go_simp
      go_at_call 91
      refine (H1.out _).mono ?_
      rintro e wc0 ⟨rfl, hbc⟩
      replace OH := Lib.hid (OH.out.below hbc)
      clear hbc
      refine hK.out _ _ ?_ (fun hHeld2 => ?_)
      · exact OH.out
      clear hK K hHeld
      have hHeld := hHeld2
      clear hHeld2
      try simp only [Act.put, pA, pB, pC]
      refine wpAnyH_ready (rs := [3, 11]) (by kernel_rfl) (by simp) ?_
      refine rdC rfl (fun K hK => ?_) (rdC rfl (fun K hK => ?_) AllReadyH.nil)
      · go_simp
        replace OH := Lib.hid (OH.out.alloc (.cells #[.int .u8 (IntKind.u8.wrap t.fKind)] 5))
        have BX := Lib.hid (Box.new wc0 5 #[.int .u8 (IntKind.u8.wrap t.fKind)])
        obtain ⟨gx, hgx⟩ : ∃ z, z = wc0.heap.size := ⟨_, rfl⟩
        rw [← hgx] at BX
        rw [← hgx]
        clear hgx
        generalize wc0.alloc (.cells #[.int .u8 (IntKind.u8.wrap t.fKind)] 5) = wa at *
        refine hK.out _ _ ?_ (fun hHeld2 => ?_)
        · exact OH.out
        clear hK K hHeld
        have hHeld := hHeld2
        clear hHeld2
        try simp only [Act.put, pA, pB, pC]
        refine wpAnyH_ready (rs := [4, 11]) (by kernel_rfl) (by simp) ?_
        refine rdC rfl (fun K hK => ?_) (rdC rfl (fun K hK => ?_) AllReadyH.nil)
        · have kv := KB.out _ _ BX.out
          go_simp
          clear kv BX
          refine hK.out _ _ ?_ (fun hHeld2 => ?_)
          · exact OH.out
          clear hK K hHeld
          have hHeld := hHeld2
          clear hHeld2
          try simp only [Act.put, pA, pB, pC]
          refine tkP (i := 8) (v := .string (PA ++ P1)) rfl ?_
          try simp only [Act.put, pA, pB, pC]
          refine wpAnyH_ready (rs := [11]) (by kernel_rfl) (by simp) ?_
          refine rdC rfl (fun K hK => ?_) AllReadyH.nil
          go_simp
          go_at_call 91
          refine (H2.out _).mono ?_
          rintro e wc1 ⟨rfl, hbc⟩
          replace OH := Lib.hid (OH.out.below hbc)
          clear hbc
          refine hK.out _ _ ?_ (fun hHeld2 => ?_)
          · exact OH.out
          clear hK K hHeld
          have hHeld := hHeld2
          clear hHeld2
          try simp only [Act.put, pA, pB, pC]
          refine tkP (i := 12) (v := .string (PA ++ P1 ++ P2)) rfl ?_
          try simp only [Act.put, pA, pB, pC]
          refine wpAnyH_ready (rs := [15]) (by kernel_rfl) (by simp) ?_
          refine rdC rfl (fun K hK => ?_) AllReadyH.nil
          go_simp
          go_at_call 131
          refine (H3.out _).mono ?_
          rintro e wc2 ⟨rfl, hbc⟩
          replace OH := Lib.hid (OH.out.below hbc)
          clear hbc
          refine hK.out _ _ ?_ (fun hHeld2 => ?_)
          · exact OH.out
          clear hK K hHeld
          have hHeld := hHeld2
          clear hHeld2
          try simp only [Act.put, pA, pB, pC]
          refine tkP (i := 16) (v := .string (PA ++ P1 ++ P2 ++ P3)) rfl ?_
          try simp only [Act.put, pA, pB, pC]
          refine wpAnyH_ready (rs := [19]) (by kernel_rfl) (by simp) ?_
          refine rdC rfl (fun K hK => ?_) AllReadyH.nil
          go_simp
          go_at_call 131
          refine (H4.out _).mono ?_
          rintro e wc3 ⟨rfl, hbc⟩
          replace OH := Lib.hid (OH.out.below hbc)
          clear hbc
          refine hK.out _ _ ?_ (fun hHeld2 => ?_)
          · exact OH.out
          clear hK K hHeld
          have hHeld := hHeld2
          clear hHeld2
          try simp only [Act.put, pA, pB, pC]
          refine tkP (i := 20) (v := .string (PA ++ P1 ++ P2 ++ P3 ++ P4)) rfl ?_
          try simp only [Act.put, pA, pB, pC]
          refine wpAnyH_ready (rs := [24]) (by kernel_rfl) (by simp) ?_
          refine rdC rfl (fun K hK => ?_) AllReadyH.nil
          go_simp
          go_at_call 91
          refine (H5.out _).mono ?_
          rintro e wc4 ⟨rfl, hbc⟩
          replace OH := Lib.hid (OH.out.below hbc)
          clear hbc
          refine hK.out _ _ ?_ (fun hHeld2 => ?_)
          · exact OH.out
          clear hK K hHeld
          have hHeld := hHeld2
          clear hHeld2
          try simp only [Act.put, pA, pB, pC]
          refine tkP (i := 25) (v := .string (PA ++ P1 ++ P2 ++ P3 ++ P4 ++ P5)) rfl ?_
          try simp only [Act.put, pA, pB, pC]
          refine tkP (i := 26) (v := .string (PA ++ P1 ++ P2 ++ P3 ++ P4 ++ P5)) rfl ?_
          try simp only [Act.put, pA, pB, pC]
          refine wpAnyH_done (by kernel_rfl) ?_ _
          clear hHeld
          revert OH
          revert wc4
          revert gx
          exact key.out
        · go_simp
          go_at_call 91
          refine (H2.out _).mono ?_
          rintro e wc1 ⟨rfl, hbc⟩
          replace OH := Lib.hid (OH.out.below hbc)
          replace BX := Lib.hid (BX.out.below hbc BX.out.lt)
          clear hbc
          refine hK.out _ _ ?_ (fun hHeld2 => ?_)
          · exact OH.out
          clear hK K hHeld
          have hHeld := hHeld2
          clear hHeld2
          try simp only [Act.put, pA, pB, pC]
          refine wpAnyH_ready (rs := [4, 15]) (by kernel_rfl) (by simp) ?_
          refine rdC rfl (fun K hK => ?_) (rdC rfl (fun K hK => ?_) AllReadyH.nil)
          · have kv := KB.out _ _ BX.out
            go_simp
            clear kv BX
            refine hK.out _ _ ?_ (fun hHeld2 => ?_)
            · exact OH.out
            clear hK K hHeld
            have hHeld := hHeld2
            clear hHeld2
            try simp only [Act.put, pA, pB, pC]
            refine tkP (i := 8) (v := .string (PA ++ P1)) rfl ?_
            try simp only [Act.put, pA, pB, pC]
            refine tkP (i := 12) (v := .string (PA ++ P1 ++ P2)) rfl ?_
            try simp only [Act.put, pA, pB, pC]
            refine wpAnyH_ready (rs := [15]) (by kernel_rfl) (by simp) ?_
            refine rdC rfl (fun K hK => ?_) AllReadyH.nil
            go_simp
            go_at_call 131
            refine (H3.out _).mono ?_
            rintro e wc2 ⟨rfl, hbc⟩
            replace OH := Lib.hid (OH.out.below hbc)
            clear hbc
            refine hK.out _ _ ?_ (fun hHeld2 => ?_)
            · exact OH.out
            clear hK K hHeld
            have hHeld := hHeld2
            clear hHeld2
            try simp only [Act.put, pA, pB, pC]
            refine tkP (i := 16) (v := .string (PA ++ P1 ++ P2 ++ P3)) rfl ?_
            try simp only [Act.put, pA, pB, pC]
            refine wpAnyH_ready (rs := [19]) (by kernel_rfl) (by simp) ?_
            refine rdC rfl (fun K hK => ?_) AllReadyH.nil
            go_simp
            go_at_call 131
            refine (H4.out _).mono ?_
            rintro e wc3 ⟨rfl, hbc⟩
            replace OH := Lib.hid (OH.out.below hbc)
            clear hbc
            refine hK.out _ _ ?_ (fun hHeld2 => ?_)
            · exact OH.out
            clear hK K hHeld
            have hHeld := hHeld2
            clear hHeld2
            try simp only [Act.put, pA, pB, pC]
            refine tkP (i := 20) (v := .string (PA ++ P1 ++ P2 ++ P3 ++ P4)) rfl ?_
            try simp only [Act.put, pA, pB, pC]
            refine wpAnyH_ready (rs := [24]) (by kernel_rfl) (by simp) ?_
            refine rdC rfl (fun K hK => ?_) AllReadyH.nil
            go_simp
            go_at_call 91
            refine (H5.out _).mono ?_
            rintro e wc4 ⟨rfl, hbc⟩
            replace OH := Lib.hid (OH.out.below hbc)
            clear hbc
            refine hK.out _ _ ?_ (fun hHeld2 => ?_)
            · exact OH.out
            clear hK K hHeld
            have hHeld := hHeld2
            clear hHeld2
            try simp only [Act.put, pA, pB, pC]
            refine tkP (i := 25) (v := .string (PA ++ P1 ++ P2 ++ P3 ++ P4 ++ P5)) rfl ?_
            try simp only [Act.put, pA, pB, pC]
            refine tkP (i := 26) (v := .string (PA ++ P1 ++ P2 ++ P3 ++ P4 ++ P5)) rfl ?_
            try simp only [Act.put, pA, pB, pC]
            refine wpAnyH_done (by kernel_rfl) ?_ _
            clear hHeld
            revert OH
            revert wc4
            revert gx
            exact key.out
          · go_simp
            go_at_call 131
            refine (H3.out _).mono ?_
            rintro e wc2 ⟨rfl, hbc⟩
            replace OH := Lib.hid (OH.out.below hbc)
            replace BX := Lib.hid (BX.out.below hbc BX.out.lt)
            clear hbc
            refine hK.out _ _ ?_ (fun hHeld2 => ?_)
            · exact OH.out
            clear hK K hHeld
            have hHeld := hHeld2
            clear hHeld2
            try simp only [Act.put, pA, pB, pC]
            refine wpAnyH_ready (rs := [4, 19]) (by kernel_rfl) (by simp) ?_
            refine rdC rfl (fun K hK => ?_) (rdC rfl (fun K hK => ?_) AllReadyH.nil)
            · have kv := KB.out _ _ BX.out
              go_simp
              clear kv BX
              refine hK.out _ _ ?_ (fun hHeld2 => ?_)
              · exact OH.out
              clear hK K hHeld
              have hHeld := hHeld2
              clear hHeld2
              try simp only [Act.put, pA, pB, pC]
              refine tkP (i := 8) (v := .string (PA ++ P1)) rfl ?_
              try simp only [Act.put, pA, pB, pC]
              refine tkP (i := 12) (v := .string (PA ++ P1 ++ P2)) rfl ?_
              try simp only [Act.put, pA, pB, pC]
              refine tkP (i := 16) (v := .string (PA ++ P1 ++ P2 ++ P3)) rfl ?_
              try simp only [Act.put, pA, pB, pC]
              refine wpAnyH_ready (rs := [19]) (by kernel_rfl) (by simp) ?_
              refine rdC rfl (fun K hK => ?_) AllReadyH.nil
              go_simp
              go_at_call 131
              refine (H4.out _).mono ?_
              rintro e wc3 ⟨rfl, hbc⟩
              replace OH := Lib.hid (OH.out.below hbc)
              clear hbc
              refine hK.out _ _ ?_ (fun hHeld2 => ?_)
              · exact OH.out
              clear hK K hHeld
              have hHeld := hHeld2
              clear hHeld2
              try simp only [Act.put, pA, pB, pC]
              refine tkP (i := 20) (v := .string (PA ++ P1 ++ P2 ++ P3 ++ P4)) rfl ?_
              try simp only [Act.put, pA, pB, pC]
              refine wpAnyH_ready (rs := [24]) (by kernel_rfl) (by simp) ?_
              refine rdC rfl (fun K hK => ?_) AllReadyH.nil
              go_simp
              go_at_call 91
              refine (H5.out _).mono ?_
              rintro e wc4 ⟨rfl, hbc⟩
              replace OH := Lib.hid (OH.out.below hbc)
              clear hbc
              refine hK.out _ _ ?_ (fun hHeld2 => ?_)
              · exact OH.out
              clear hK K hHeld
              have hHeld := hHeld2
              clear hHeld2
              try simp only [Act.put, pA, pB, pC]
              refine tkP (i := 25) (v := .string (PA ++ P1 ++ P2 ++ P3 ++ P4 ++ P5)) rfl ?_
              try simp only [Act.put, pA, pB, pC]
              refine tkP (i := 26) (v := .string (PA ++ P1 ++ P2 ++ P3 ++ P4 ++ P5)) rfl ?_
              try simp only [Act.put, pA, pB, pC]
              refine wpAnyH_done (by kernel_rfl) ?_ _
              clear hHeld
              revert OH
              revert wc4
              revert gx
              exact key.out
            · go_simp
              go_at_call 131
              refine (H4.out _).mono ?_
              rintro e wc3 ⟨rfl, hbc⟩
              replace OH := Lib.hid (OH.out.below hbc)
              replace BX := Lib.hid (BX.out.below hbc BX.out.lt)
              clear hbc
              refine hK.out _ _ ?_ (fun hHeld2 => ?_)
              · exact OH.out
              clear hK K hHeld
              have hHeld := hHeld2
              clear hHeld2
              try simp only [Act.put, pA, pB, pC]
              refine wpAnyH_ready (rs := [4, 24]) (by kernel_rfl) (by simp) ?_
              refine rdC rfl (fun K hK => ?_) (rdC rfl (fun K hK => ?_) AllReadyH.nil)
              · have kv := KB.out _ _ BX.out
                go_simp
                clear kv BX
                refine hK.out _ _ ?_ (fun hHeld2 => ?_)
                · exact OH.out
                clear hK K hHeld
                have hHeld := hHeld2
                clear hHeld2
                try simp only [Act.put, pA, pB, pC]
                refine tkP (i := 8) (v := .string (PA ++ P1)) rfl ?_
                try simp only [Act.put, pA, pB, pC]
                refine tkP (i := 12) (v := .string (PA ++ P1 ++ P2)) rfl ?_
                try simp only [Act.put, pA, pB, pC]
                refine tkP (i := 16) (v := .string (PA ++ P1 ++ P2 ++ P3)) rfl ?_
                try simp only [Act.put, pA, pB, pC]
                refine tkP (i := 20) (v := .string (PA ++ P1 ++ P2 ++ P3 ++ P4)) rfl ?_
                try simp only [Act.put, pA, pB, pC]
                refine wpAnyH_ready (rs := [24]) (by kernel_rfl) (by simp) ?_
                refine rdC rfl (fun K hK => ?_) AllReadyH.nil
                go_simp
                go_at_call 91
                refine (H5.out _).mono ?_
                rintro e wc4 ⟨rfl, hbc⟩
                replace OH := Lib.hid (OH.out.below hbc)
                clear hbc
                refine hK.out _ _ ?_ (fun hHeld2 => ?_)
                · exact OH.out
                clear hK K hHeld
                have hHeld := hHeld2
                clear hHeld2
                try simp only [Act.put, pA, pB, pC]
                refine tkP (i := 25) (v := .string (PA ++ P1 ++ P2 ++ P3 ++ P4 ++ P5)) rfl ?_
                try simp only [Act.put, pA, pB, pC]
                refine tkP (i := 26) (v := .string (PA ++ P1 ++ P2 ++ P3 ++ P4 ++ P5)) rfl ?_
                try simp only [Act.put, pA, pB, pC]
                refine wpAnyH_done (by kernel_rfl) ?_ _
                clear hHeld
                revert OH
                revert wc4
                revert gx
                exact key.out
              · go_simp
                go_at_call 91
                refine (H5.out _).mono ?_
                rintro e wc4 ⟨rfl, hbc⟩
                replace OH := Lib.hid (OH.out.below hbc)
                replace BX := Lib.hid (BX.out.below hbc BX.out.lt)
                clear hbc
                refine hK.out _ _ ?_ (fun hHeld2 => ?_)
                · exact OH.out
                clear hK K hHeld
                have hHeld := hHeld2
                clear hHeld2
                try simp only [Act.put, pA, pB, pC]
                refine wpAnyH_ready (rs := [4]) (by kernel_rfl) (by simp) ?_
                refine rdC rfl (fun K hK => ?_) AllReadyH.nil
                have kv := KB.out _ _ BX.out
                go_simp
                clear kv BX
                refine hK.out _ _ ?_ (fun hHeld2 => ?_)
                · exact OH.out
                clear hK K hHeld
                have hHeld := hHeld2
                clear hHeld2
                try simp only [Act.put, pA, pB, pC]
                refine tkP (i := 8) (v := .string (PA ++ P1)) rfl ?_
                try simp only [Act.put, pA, pB, pC]
                refine tkP (i := 12) (v := .string (PA ++ P1 ++ P2)) rfl ?_
                try simp only [Act.put, pA, pB, pC]
                refine tkP (i := 16) (v := .string (PA ++ P1 ++ P2 ++ P3)) rfl ?_
                try simp only [Act.put, pA, pB, pC]
                refine tkP (i := 20) (v := .string (PA ++ P1 ++ P2 ++ P3 ++ P4)) rfl ?_
                try simp only [Act.put, pA, pB, pC]
                refine tkP (i := 25) (v := .string (PA ++ P1 ++ P2 ++ P3 ++ P4 ++ P5)) rfl ?_
                try simp only [Act.put, pA, pB, pC]
                refine tkP (i := 26) (v := .string (PA ++ P1 ++ P2 ++ P3 ++ P4 ++ P5)) rfl ?_
                try simp only [Act.put, pA, pB, pC]
                refine wpAnyH_done (by kernel_rfl) ?_ _
                clear hHeld
                revert OH
                revert wc4
                revert gx
                exact key.out
      · go_simp
        go_at_call 91
        refine (H2.out _).mono ?_
        rintro e wc1 ⟨rfl, hbc⟩
        replace OH := Lib.hid (OH.out.below hbc)
        clear hbc
        refine hK.out _ _ ?_ (fun hHeld2 => ?_)
        · exact OH.out
        clear hK K hHeld
        have hHeld := hHeld2
        clear hHeld2
        try simp only [Act.put, pA, pB, pC]
        refine wpAnyH_ready (rs := [3, 15]) (by kernel_rfl) (by simp) ?_
        refine rdC rfl (fun K hK => ?_) (rdC rfl (fun K hK => ?_) AllReadyH.nil)
        · go_simp
          replace OH := Lib.hid (OH.out.alloc (.cells #[.int .u8 (IntKind.u8.wrap t.fKind)] 5))
          have BX := Lib.hid (Box.new wc1 5 #[.int .u8 (IntKind.u8.wrap t.fKind)])
          obtain ⟨gx, hgx⟩ : ∃ z, z = wc1.heap.size := ⟨_, rfl⟩
          rw [← hgx] at BX
          rw [← hgx]
          clear hgx
          generalize wc1.alloc (.cells #[.int .u8 (IntKind.u8.wrap t.fKind)] 5) = wa at *
          refine hK.out _ _ ?_ (fun hHeld2 => ?_)
          · exact OH.out
          clear hK K hHeld
          have hHeld := hHeld2
          clear hHeld2
          try simp only [Act.put, pA, pB, pC]
          refine wpAnyH_ready (rs := [4, 15]) (by kernel_rfl) (by simp) ?_
          refine rdC rfl (fun K hK => ?_) (rdC rfl (fun K hK => ?_) AllReadyH.nil)
          · have kv := KB.out _ _ BX.out
            go_simp
            clear kv BX
            refine hK.out _ _ ?_ (fun hHeld2 => ?_)
            · exact OH.out
            clear hK K hHeld
            have hHeld := hHeld2
            clear hHeld2
            try simp only [Act.put, pA, pB, pC]
            refine tkP (i := 8) (v := .string (PA ++ P1)) rfl ?_
            try simp only [Act.put, pA, pB, pC]
            refine tkP (i := 12) (v := .string (PA ++ P1 ++ P2)) rfl ?_
            try simp only [Act.put, pA, pB, pC]
            refine wpAnyH_ready (rs := [15]) (by kernel_rfl) (by simp) ?_
            refine rdC rfl (fun K hK => ?_) AllReadyH.nil
            go_simp
            go_at_call 131
            refine (H3.out _).mono ?_
            rintro e wc2 ⟨rfl, hbc⟩
            replace OH := Lib.hid (OH.out.below hbc)
            clear hbc
            refine hK.out _ _ ?_ (fun hHeld2 => ?_)
            · exact OH.out
            clear hK K hHeld
            have hHeld := hHeld2
            clear hHeld2
            try simp only [Act.put, pA, pB, pC]
            refine tkP (i := 16) (v := .string (PA ++ P1 ++ P2 ++ P3)) rfl ?_
            try simp only [Act.put, pA, pB, pC]
            refine wpAnyH_ready (rs := [19]) (by kernel_rfl) (by simp) ?_
            refine rdC rfl (fun K hK => ?_) AllReadyH.nil
            go_simp
            go_at_call 131
            refine (H4.out _).mono ?_
            rintro e wc3 ⟨rfl, hbc⟩
            replace OH := Lib.hid (OH.out.below hbc)
            clear hbc
            refine hK.out _ _ ?_ (fun hHeld2 => ?_)
            · exact OH.out
            clear hK K hHeld
            have hHeld := hHeld2
            clear hHeld2
            try simp only [Act.put, pA, pB, pC]
            refine tkP (i := 20) (v := .string (PA ++ P1 ++ P2 ++ P3 ++ P4)) rfl ?_
            try simp only [Act.put, pA, pB, pC]
            refine wpAnyH_ready (rs := [24]) (by kernel_rfl) (by simp) ?_
            refine rdC rfl (fun K hK => ?_) AllReadyH.nil
            go_simp
            go_at_call 91
            refine (H5.out _).mono ?_
            rintro e wc4 ⟨rfl, hbc⟩
            replace OH := Lib.hid (OH.out.below hbc)
            clear hbc
            refine hK.out _ _ ?_ (fun hHeld2 => ?_)
            · exact OH.out
            clear hK K hHeld
            have hHeld := hHeld2
            clear hHeld2
            try simp only [Act.put, pA, pB, pC]
            refine tkP (i := 25) (v := .string (PA ++ P1 ++ P2 ++ P3 ++ P4 ++ P5)) rfl ?_
            try simp only [Act.put, pA, pB, pC]
            refine tkP (i := 26) (v := .string (PA ++ P1 ++ P2 ++ P3 ++ P4 ++ P5)) rfl ?_
            try simp only [Act.put, pA, pB, pC]
            refine wpAnyH_done (by kernel_rfl) ?_ _
            clear hHeld
            revert OH
            revert wc4
            revert gx
            exact key.out
          · go_simp
            go_at_call 131
            refine (H3.out _).mono ?_
            rintro e wc2 ⟨rfl, hbc⟩
            replace OH := Lib.hid (OH.out.below hbc)
            replace BX := Lib.hid (BX.out.below hbc BX.out.lt)
            clear hbc
            refine hK.out _ _ ?_ (fun hHeld2 => ?_)
            · exact OH.out
            clear hK K hHeld
            have hHeld := hHeld2
            clear hHeld2
            try simp only [Act.put, pA, pB, pC]
            refine wpAnyH_ready (rs := [4, 19]) (by kernel_rfl) (by simp) ?_
            refine rdC rfl (fun K hK => ?_) (rdC rfl (fun K hK => ?_) AllReadyH.nil)
            · have kv := KB.out _ _ BX.out
              go_simp
              clear kv BX
              refine hK.out _ _ ?_ (fun hHeld2 => ?_)
              · exact OH.out
              clear hK K hHeld
              have hHeld := hHeld2
              clear hHeld2
              try simp only [Act.put, pA, pB, pC]
              refine tkP (i := 8) (v := .string (PA ++ P1)) rfl ?_
              try simp only [Act.put, pA, pB, pC]
              refine tkP (i := 12) (v := .string (PA ++ P1 ++ P2)) rfl ?_
              try simp only [Act.put, pA, pB, pC]
              refine tkP (i := 16) (v := .string (PA ++ P1 ++ P2 ++ P3)) rfl ?_
              try simp only [Act.put, pA, pB, pC]
              refine wpAnyH_ready (rs := [19]) (by kernel_rfl) (by simp) ?_
              refine rdC rfl (fun K hK => ?_) AllReadyH.nil
              go_simp
              go_at_call 131
              refine (H4.out _).mono ?_
              rintro e wc3 ⟨rfl, hbc⟩
              replace OH := Lib.hid (OH.out.below hbc)
              clear hbc
              refine hK.out _ _ ?_ (fun hHeld2 => ?_)
              · exact OH.out
              clear hK K hHeld
              have hHeld := hHeld2
              clear hHeld2
              try simp only [Act.put, pA, pB, pC]
              refine tkP (i := 20) (v := .string (PA ++ P1 ++ P2 ++ P3 ++ P4)) rfl ?_
              try simp only [Act.put, pA, pB, pC]
              refine wpAnyH_ready (rs := [24]) (by kernel_rfl) (by simp) ?_
              refine rdC rfl (fun K hK => ?_) AllReadyH.nil
              go_simp
              go_at_call 91
              refine (H5.out _).mono ?_
              rintro e wc4 ⟨rfl, hbc⟩
              replace OH := Lib.hid (OH.out.below hbc)
              clear hbc
              refine hK.out _ _ ?_ (fun hHeld2 => ?_)
              · exact OH.out
              clear hK K hHeld
              have hHeld := hHeld2
              clear hHeld2
              try simp only [Act.put, pA, pB, pC]
              refine tkP (i := 25) (v := .string (PA ++ P1 ++ P2 ++ P3 ++ P4 ++ P5)) rfl ?_
              try simp only [Act.put, pA, pB, pC]
              refine tkP (i := 26) (v := .string (PA ++ P1 ++ P2 ++ P3 ++ P4 ++ P5)) rfl ?_
              try simp only [Act.put, pA, pB, pC]
              refine wpAnyH_done (by kernel_rfl) ?_ _
              clear hHeld
              revert OH
              revert wc4
              revert gx
              exact key.out
            · go_simp
              go_at_call 131
              refine (H4.out _).mono ?_
              rintro e wc3 ⟨rfl, hbc⟩
              replace OH := Lib.hid (OH.out.below hbc)
              replace BX := Lib.hid (BX.out.below hbc BX.out.lt)
              clear hbc
              refine hK.out _ _ ?_ (fun hHeld2 => ?_)
              · exact OH.out
              clear hK K hHeld
              have hHeld := hHeld2
              clear hHeld2
              try simp only [Act.put, pA, pB, pC]
              refine wpAnyH_ready (rs := [4, 24]) (by kernel_rfl) (by simp) ?_
              refine rdC rfl (fun K hK => ?_) (rdC rfl (fun K hK => ?_) AllReadyH.nil)
              · have kv := KB.out _ _ BX.out
                go_simp
                clear kv BX
                refine hK.out _ _ ?_ (fun hHeld2 => ?_)
                · exact OH.out
                clear hK K hHeld
                have hHeld := hHeld2
                clear hHeld2
                try simp only [Act.put, pA, pB, pC]
                refine tkP (i := 8) (v := .string (PA ++ P1)) rfl ?_
                try simp only [Act.put, pA, pB, pC]
                refine tkP (i := 12) (v := .string (PA ++ P1 ++ P2)) rfl ?_
                try simp only [Act.put, pA, pB, pC]
                refine tkP (i := 16) (v := .string (PA ++ P1 ++ P2 ++ P3)) rfl ?_
                try simp only [Act.put, pA, pB, pC]
                refine tkP (i := 20) (v := .string (PA ++ P1 ++ P2 ++ P3 ++ P4)) rfl ?_
                try simp only [Act.put, pA, pB, pC]
                refine wpAnyH_ready (rs := [24]) (by kernel_rfl) (by simp) ?_
                refine rdC rfl (fun K hK => ?_) AllReadyH.nil
                go_simp
                go_at_call 91
                refine (H5.out _).mono ?_
                rintro e wc4 ⟨rfl, hbc⟩
                replace OH := Lib.hid (OH.out.below hbc)
                clear hbc
                refine hK.out _ _ ?_ (fun hHeld2 => ?_)
                · exact OH.out
                clear hK K hHeld
                have hHeld := hHeld2
                clear hHeld2
                try simp only [Act.put, pA, pB, pC]
                refine tkP (i := 25) (v := .string (PA ++ P1 ++ P2 ++ P3 ++ P4 ++ P5)) rfl ?_
                try simp only [Act.put, pA, pB, pC]
                refine tkP (i := 26) (v := .string (PA ++ P1 ++ P2 ++ P3 ++ P4 ++ P5)) rfl ?_
                try simp only [Act.put, pA, pB, pC]
                refine wpAnyH_done (by kernel_rfl) ?_ _
                clear hHeld
                revert OH
                revert wc4
                revert gx
                exact key.out
              · go_simp
                go_at_call 91
                refine (H5.out _).mono ?_
                rintro e wc4 ⟨rfl, hbc⟩
                replace OH := Lib.hid (OH.out.below hbc)
                replace BX := Lib.hid (BX.out.below hbc BX.out.lt)
                clear hbc
                refine hK.out _ _ ?_ (fun hHeld2 => ?_)
                · exact OH.out
                clear hK K hHeld
                have hHeld := hHeld2
                clear hHeld2
                try simp only [Act.put, pA, pB, pC]
                refine wpAnyH_ready (rs := [4]) (by kernel_rfl) (by simp) ?_
                refine rdC rfl (fun K hK => ?_) AllReadyH.nil
                have kv := KB.out _ _ BX.out
                go_simp
                clear kv BX
                refine hK.out _ _ ?_ (fun hHeld2 => ?_)
                · exact OH.out
                clear hK K hHeld
                have hHeld := hHeld2
                clear hHeld2
                try simp only [Act.put, pA, pB, pC]
                refine tkP (i := 8) (v := .string (PA ++ P1)) rfl ?_
                try simp only [Act.put, pA, pB, pC]
                refine tkP (i := 12) (v := .string (PA ++ P1 ++ P2)) rfl ?_
                try simp only [Act.put, pA, pB, pC]
                refine tkP (i := 16) (v := .string (PA ++ P1 ++ P2 ++ P3)) rfl ?_
                try simp only [Act.put, pA, pB, pC]
                refine tkP (i := 20) (v := .string (PA ++ P1 ++ P2 ++ P3 ++ P4)) rfl ?_
                try simp only [Act.put, pA, pB, pC]
                refine tkP (i := 25) (v := .string (PA ++ P1 ++ P2 ++ P3 ++ P4 ++ P5)) rfl ?_
                try simp only [Act.put, pA, pB, pC]
                refine tkP (i := 26) (v := .string (PA ++ P1 ++ P2 ++ P3 ++ P4 ++ P5)) rfl ?_
                try simp only [Act.put, pA, pB, pC]
                refine wpAnyH_done (by kernel_rfl) ?_ _
                clear hHeld
                revert OH
                revert wc4
                revert gx
                exact key.out
        · go_simp
          go_at_call 131
          refine (H3.out _).mono ?_
          rintro e wc2 ⟨rfl, hbc⟩
          replace OH := Lib.hid (OH.out.below hbc)
          clear hbc
          refine hK.out _ _ ?_ (fun hHeld2 => ?_)
          · exact OH.out
          clear hK K hHeld
          have hHeld := hHeld2
          clear hHeld2
          try simp only [Act.put, pA, pB, pC]
          refine wpAnyH_ready (rs := [3, 19]) (by kernel_rfl) (by simp) ?_
          refine rdC rfl (fun K hK => ?_) (rdC rfl (fun K hK => ?_) AllReadyH.nil)
          · go_simp
            replace OH := Lib.hid (OH.out.alloc (.cells #[.int .u8 (IntKind.u8.wrap t.fKind)] 5))
            have BX := Lib.hid (Box.new wc2 5 #[.int .u8 (IntKind.u8.wrap t.fKind)])
            obtain ⟨gx, hgx⟩ : ∃ z, z = wc2.heap.size := ⟨_, rfl⟩
            rw [← hgx] at BX
            rw [← hgx]
            clear hgx
            generalize wc2.alloc (.cells #[.int .u8 (IntKind.u8.wrap t.fKind)] 5) = wa at *
            refine hK.out _ _ ?_ (fun hHeld2 => ?_)
            · exact OH.out
            clear hK K hHeld
            have hHeld := hHeld2
            clear hHeld2
            try simp only [Act.put, pA, pB, pC]
            refine wpAnyH_ready (rs := [4, 19]) (by kernel_rfl) (by simp) ?_
            refine rdC rfl (fun K hK => ?_) (rdC rfl (fun K hK => ?_) AllReadyH.nil)
            · have kv := KB.out _ _ BX.out
              go_simp
              clear kv BX
              refine hK.out _ _ ?_ (fun hHeld2 => ?_)
              · exact OH.out
              clear hK K hHeld
              have hHeld := hHeld2
              clear hHeld2
              try simp only [Act.put, pA, pB, pC]
              refine tkP (i := 8) (v := .string (PA ++ P1)) rfl ?_
              try simp only [Act.put, pA, pB, pC]
              refine tkP (i := 12) (v := .string (PA ++ P1 ++ P2)) rfl ?_
              try simp only [Act.put, pA, pB, pC]
              refine tkP (i := 16) (v := .string (PA ++ P1 ++ P2 ++ P3)) rfl ?_
              try simp only [Act.put, pA, pB, pC]
              refine wpAnyH_ready (rs := [19]) (by kernel_rfl) (by simp) ?_
              refine rdC rfl (fun K hK => ?_) AllReadyH.nil
              go_simp
              go_at_call 131
              refine (H4.out _).mono ?_
              rintro e wc3 ⟨rfl, hbc⟩
              replace OH := Lib.hid (OH.out.below hbc)
              clear hbc
              refine hK.out _ _ ?_ (fun hHeld2 => ?_)
              · exact OH.out
              clear hK K hHeld
              have hHeld := hHeld2
              clear hHeld2
              try simp only [Act.put, pA, pB, pC]
              refine tkP (i := 20) (v := .string (PA ++ P1 ++ P2 ++ P3 ++ P4)) rfl ?_
              try simp only [Act.put, pA, pB, pC]
              refine wpAnyH_ready (rs := [24]) (by kernel_rfl) (by simp) ?_
              refine rdC rfl (fun K hK => ?_) AllReadyH.nil
              go_simp
              go_at_call 91
              refine (H5.out _).mono ?_
              rintro e wc4 ⟨rfl, hbc⟩
              replace OH := Lib.hid (OH.out.below hbc)
              clear hbc
              refine hK.out _ _ ?_ (fun hHeld2 => ?_)
              · exact OH.out
              clear hK K hHeld
              have hHeld := hHeld2
              clear hHeld2
              try simp only [Act.put, pA, pB, pC]
              refine tkP (i := 25) (v := .string (PA ++ P1 ++ P2 ++ P3 ++ P4 ++ P5)) rfl ?_
              try simp only [Act.put, pA, pB, pC]
              refine tkP (i := 26) (v := .string (PA ++ P1 ++ P2 ++ P3 ++ P4 ++ P5)) rfl ?_
              try simp only [Act.put, pA, pB, pC]
              refine wpAnyH_done (by kernel_rfl) ?_ _
              clear hHeld
              revert OH
              revert wc4
              revert gx
              exact key.out
            · go_simp
              go_at_call 131
              refine (H4.out _).mono ?_
              rintro e wc3 ⟨rfl, hbc⟩
              replace OH := Lib.hid (OH.out.below hbc)
              replace BX := Lib.hid (BX.out.below hbc BX.out.lt)
              clear hbc
              refine hK.out _ _ ?_ (fun hHeld2 => ?_)
              · exact OH.out
              clear hK K hHeld
              have hHeld := hHeld2
              clear hHeld2
              try simp only [Act.put, pA, pB, pC]
              refine wpAnyH_ready (rs := [4, 24]) (by kernel_rfl) (by simp) ?_
              refine rdC rfl (fun K hK => ?_) (rdC rfl (fun K hK => ?_) AllReadyH.nil)
              · have kv := KB.out _ _ BX.out
                go_simp
                clear kv BX
                refine hK.out _ _ ?_ (fun hHeld2 => ?_)
                · exact OH.out
                clear hK K hHeld
                have hHeld := hHeld2
                clear hHeld2
                try simp only [Act.put, pA, pB, pC]
                refine tkP (i := 8) (v := .string (PA ++ P1)) rfl ?_
                try simp only [Act.put, pA, pB, pC]
                refine tkP (i := 12) (v := .string (PA ++ P1 ++ P2)) rfl ?_
                try simp only [Act.put, pA, pB, pC]
                refine tkP (i := 16) (v := .string (PA ++ P1 ++ P2 ++ P3)) rfl ?_
                try simp only [Act.put, pA, pB, pC]
                refine tkP (i := 20) (v := .string (PA ++ P1 ++ P2 ++ P3 ++ P4)) rfl ?_
                try simp only [Act.put, pA, pB, pC]
                refine wpAnyH_ready (rs := [24]) (by kernel_rfl) (by simp) ?_
                refine rdC rfl (fun K hK => ?_) AllReadyH.nil
                go_simp
                go_at_call 91
                refine (H5.out _).mono ?_
                rintro e wc4 ⟨rfl, hbc⟩
                replace OH := Lib.hid (OH.out.below hbc)
                clear hbc
                refine hK.out _ _ ?_ (fun hHeld2 => ?_)
                · exact OH.out
                clear hK K hHeld
                have hHeld := hHeld2
                clear hHeld2
                try simp only [Act.put, pA, pB, pC]
                refine tkP (i := 25) (v := .string (PA ++ P1 ++ P2 ++ P3 ++ P4 ++ P5)) rfl ?_
                try simp only [Act.put, pA, pB, pC]
                refine tkP (i := 26) (v := .string (PA ++ P1 ++ P2 ++ P3 ++ P4 ++ P5)) rfl ?_
                try simp only [Act.put, pA, pB, pC]
                refine wpAnyH_done (by kernel_rfl) ?_ _
                clear hHeld
                revert OH
                revert wc4
                revert gx
                exact key.out
              · go_simp
                go_at_call 91
                refine (H5.out _).mono ?_
                rintro e wc4 ⟨rfl, hbc⟩
                replace OH := Lib.hid (OH.out.below hbc)
                replace BX := Lib.hid (BX.out.below hbc BX.out.lt)
                clear hbc
                refine hK.out _ _ ?_ (fun hHeld2 => ?_)
                · exact OH.out
                clear hK K hHeld
                have hHeld := hHeld2
                clear hHeld2
                try simp only [Act.put, pA, pB, pC]
                refine wpAnyH_ready (rs := [4]) (by kernel_rfl) (by simp) ?_
                refine rdC rfl (fun K hK => ?_) AllReadyH.nil
                have kv := KB.out _ _ BX.out
                go_simp
                clear kv BX
                refine hK.out _ _ ?_ (fun hHeld2 => ?_)
                · exact OH.out
                clear hK K hHeld
                have hHeld := hHeld2
                clear hHeld2
                try simp only [Act.put, pA, pB, pC]
                refine tkP (i := 8) (v := .string (PA ++ P1)) rfl ?_
                try simp only [Act.put, pA, pB, pC]
                refine tkP (i := 12) (v := .string (PA ++ P1 ++ P2)) rfl ?_
                try simp only [Act.put, pA, pB, pC]
                refine tkP (i := 16) (v := .string (PA ++ P1 ++ P2 ++ P3)) rfl ?_
                try simp only [Act.put, pA, pB, pC]
                refine tkP (i := 20) (v := .string (PA ++ P1 ++ P2 ++ P3 ++ P4)) rfl ?_
                try simp only [Act.put, pA, pB, pC]
                refine tkP (i := 25) (v := .string (PA ++ P1 ++ P2 ++ P3 ++ P4 ++ P5)) rfl ?_
                try simp only [Act.put, pA, pB, pC]
                refine tkP (i := 26) (v := .string (PA ++ P1 ++ P2 ++ P3 ++ P4 ++ P5)) rfl ?_
                try simp only [Act.put, pA, pB, pC]
                refine wpAnyH_done (by kernel_rfl) ?_ _
                clear hHeld
                revert OH
                revert wc4
                revert gx
                exact key.out
          · go_simp
            go_at_call 131
            refine (H4.out _).mono ?_
            rintro e wc3 ⟨rfl, hbc⟩
            replace OH := Lib.hid (OH.out.below hbc)
            clear hbc
            refine hK.out _ _ ?_ (fun hHeld2 => ?_)
            · exact OH.out
            clear hK K hHeld
            have hHeld := hHeld2
            clear hHeld2
            try simp only [Act.put, pA, pB, pC]
            refine wpAnyH_ready (rs := [3, 24]) (by kernel_rfl) (by simp) ?_
            refine rdC rfl (fun K hK => ?_) (rdC rfl (fun K hK => ?_) AllReadyH.nil)
            · go_simp
              replace OH := Lib.hid (OH.out.alloc (.cells #[.int .u8 (IntKind.u8.wrap t.fKind)] 5))
              have BX := Lib.hid (Box.new wc3 5 #[.int .u8 (IntKind.u8.wrap t.fKind)])
              obtain ⟨gx, hgx⟩ : ∃ z, z = wc3.heap.size := ⟨_, rfl⟩
              rw [← hgx] at BX
              rw [← hgx]
              clear hgx
              generalize wc3.alloc (.cells #[.int .u8 (IntKind.u8.wrap t.fKind)] 5) = wa at *
              refine hK.out _ _ ?_ (fun hHeld2 => ?_)
              · exact OH.out
              clear hK K hHeld
              have hHeld := hHeld2
              clear hHeld2
              try simp only [Act.put, pA, pB, pC]
              refine wpAnyH_ready (rs := [4, 24]) (by kernel_rfl) (by simp) ?_
              refine rdC rfl (fun K hK => ?_) (rdC rfl (fun K hK => ?_) AllReadyH.nil)
              · have kv := KB.out _ _ BX.out
                go_simp
                clear kv BX
                refine hK.out _ _ ?_ (fun hHeld2 => ?_)
                · exact OH.out
                clear hK K hHeld
                have hHeld := hHeld2
                clear hHeld2
                try simp only [Act.put, pA, pB, pC]
                refine tkP (i := 8) (v := .string (PA ++ P1)) rfl ?_
                try simp only [Act.put, pA, pB, pC]
                refine tkP (i := 12) (v := .string (PA ++ P1 ++ P2)) rfl ?_
                try simp only [Act.put, pA, pB, pC]
                refine tkP (i := 16) (v := .string (PA ++ P1 ++ P2 ++ P3)) rfl ?_
                try simp only [Act.put, pA, pB, pC]
                refine tkP (i := 20) (v := .string (PA ++ P1 ++ P2 ++ P3 ++ P4)) rfl ?_
                try simp only [Act.put, pA, pB, pC]
                refine wpAnyH_ready (rs := [24]) (by kernel_rfl) (by simp) ?_
                refine rdC rfl (fun K hK => ?_) AllReadyH.nil
                go_simp
                go_at_call 91
                refine (H5.out _).mono ?_
                rintro e wc4 ⟨rfl, hbc⟩
                replace OH := Lib.hid (OH.out.below hbc)
                clear hbc
                refine hK.out _ _ ?_ (fun hHeld2 => ?_)
                · exact OH.out
                clear hK K hHeld
                have hHeld := hHeld2
                clear hHeld2
                try simp only [Act.put, pA, pB, pC]
                refine tkP (i := 25) (v := .string (PA ++ P1 ++ P2 ++ P3 ++ P4 ++ P5)) rfl ?_
                try simp only [Act.put, pA, pB, pC]
                refine tkP (i := 26) (v := .string (PA ++ P1 ++ P2 ++ P3 ++ P4 ++ P5)) rfl ?_
                try simp only [Act.put, pA, pB, pC]
                refine wpAnyH_done (by kernel_rfl) ?_ _
                clear hHeld
                revert OH
                revert wc4
                revert gx
                exact key.out
              · go_simp
                go_at_call 91
                refine (H5.out _).mono ?_
                rintro e wc4 ⟨rfl, hbc⟩
                replace OH := Lib.hid (OH.out.below hbc)
                replace BX := Lib.hid (BX.out.below hbc BX.out.lt)
                clear hbc
                refine hK.out _ _ ?_ (fun hHeld2 => ?_)
                · exact OH.out
                clear hK K hHeld
                have hHeld := hHeld2
                clear hHeld2
                try simp only [Act.put, pA, pB, pC]
                refine wpAnyH_ready (rs := [4]) (by kernel_rfl) (by simp) ?_
                refine rdC rfl (fun K hK => ?_) AllReadyH.nil
                have kv := KB.out _ _ BX.out
                go_simp
                clear kv BX
                refine hK.out _ _ ?_ (fun hHeld2 => ?_)
                · exact OH.out
                clear hK K hHeld
                have hHeld := hHeld2
                clear hHeld2
                try simp only [Act.put, pA, pB, pC]
                refine tkP (i := 8) (v := .string (PA ++ P1)) rfl ?_
                try simp only [Act.put, pA, pB, pC]
                refine tkP (i := 12) (v := .string (PA ++ P1 ++ P2)) rfl ?_
                try simp only [Act.put, pA, pB, pC]
                refine tkP (i := 16) (v := .string (PA ++ P1 ++ P2 ++ P3)) rfl ?_
                try simp only [Act.put, pA, pB, pC]
                refine tkP (i := 20) (v := .string (PA ++ P1 ++ P2 ++ P3 ++ P4)) rfl ?_
                try simp only [Act.put, pA, pB, pC]
                refine tkP (i := 25) (v := .string (PA ++ P1 ++ P2 ++ P3 ++ P4 ++ P5)) rfl ?_
                try simp only [Act.put, pA, pB, pC]
                refine tkP (i := 26) (v := .string (PA ++ P1 ++ P2 ++ P3 ++ P4 ++ P5)) rfl ?_
                try simp only [Act.put, pA, pB, pC]
                refine wpAnyH_done (by kernel_rfl) ?_ _
                clear hHeld
                revert OH
                revert wc4
                revert gx
                exact key.out
            · go_simp
              go_at_call 91
              refine (H5.out _).mono ?_
              rintro e wc4 ⟨rfl, hbc⟩
              replace OH := Lib.hid (OH.out.below hbc)
              clear hbc
              refine hK.out _ _ ?_ (fun hHeld2 => ?_)
              · exact OH.out
              clear hK K hHeld
              have hHeld := hHeld2
              clear hHeld2
              try simp only [Act.put, pA, pB, pC]
              refine wpAnyH_ready (rs := [3]) (by kernel_rfl) (by simp) ?_
              refine rdC rfl (fun K hK => ?_) AllReadyH.nil
              go_simp
              replace OH := Lib.hid (OH.out.alloc (.cells #[.int .u8 (IntKind.u8.wrap t.fKind)] 5))
              have BX := Lib.hid (Box.new wc4 5 #[.int .u8 (IntKind.u8.wrap t.fKind)])
              obtain ⟨gx, hgx⟩ : ∃ z, z = wc4.heap.size := ⟨_, rfl⟩
              rw [← hgx] at BX
              rw [← hgx]
              clear hgx
              generalize wc4.alloc (.cells #[.int .u8 (IntKind.u8.wrap t.fKind)] 5) = wa at *
              refine hK.out _ _ ?_ (fun hHeld2 => ?_)
              · exact OH.out
              clear hK K hHeld
              have hHeld := hHeld2
              clear hHeld2
              try simp only [Act.put, pA, pB, pC]
              refine wpAnyH_ready (rs := [4]) (by kernel_rfl) (by simp) ?_
              refine rdC rfl (fun K hK => ?_) AllReadyH.nil
              have kv := KB.out _ _ BX.out
              go_simp
              clear kv BX
              refine hK.out _ _ ?_ (fun hHeld2 => ?_)
              · exact OH.out
              clear hK K hHeld
              have hHeld := hHeld2
              clear hHeld2
              try simp only [Act.put, pA, pB, pC]
              refine tkP (i := 8) (v := .string (PA ++ P1)) rfl ?_
              try simp only [Act.put, pA, pB, pC]
              refine tkP (i := 12) (v := .string (PA ++ P1 ++ P2)) rfl ?_
              try simp only [Act.put, pA, pB, pC]
              refine tkP (i := 16) (v := .string (PA ++ P1 ++ P2 ++ P3)) rfl ?_
              try simp only [Act.put, pA, pB, pC]
              refine tkP (i := 20) (v := .string (PA ++ P1 ++ P2 ++ P3 ++ P4)) rfl ?_
              try simp only [Act.put, pA, pB, pC]
              refine tkP (i := 25) (v := .string (PA ++ P1 ++ P2 ++ P3 ++ P4 ++ P5)) rfl ?_
              try simp only [Act.put, pA, pB, pC]
              refine tkP (i := 26) (v := .string (PA ++ P1 ++ P2 ++ P3 ++ P4 ++ P5)) rfl ?_
              try simp only [Act.put, pA, pB, pC]
              refine wpAnyH_done (by kernel_rfl) ?_ _
              clear hHeld
              revert OH
              revert wa
              revert gx
              exact key.out
  case heavy =>
    intro gx W OH
    clear H1 H2 H3 H4 H5 KB hz1 hz2 hz3 hz4 hz5
    obtain ⟨_, _, _, y3, _, _, _⟩ := OH.out
    have hzz := ZZ.out
    generalize PA ++ P1 ++ P2 ++ P3 ++ P4 ++ P5 = PP at *
    clear ZZ
    go_wp2_with fail
    go_loopw [35, 3] (fun i sv wr => ∃ k : Nat, i = .int .i64 k ∧ sv = .string (PP ++ catP fieldPart (t.fFields.take k)) ∧ k ≤ t.fFields.length ∧ TypHeld w t a c wr) (fun i _ _ => t.fFields.length - (intOf i).toNat)
    case atStart => exact ⟨0, rfl, by rw [List.take_zero]; show Value.string PP = Value.string (PP ++ ByteArray.empty); rw [ba_empty], by omega, OH.out⟩
    case round =>
      obtain ⟨wl, hwl⟩ : ∃ z, z = wr := ⟨_, rfl⟩
      subst hwl
      obtain ⟨k, rfl, rfl, hk, hoh⟩ := hrel
      have OH := Lib.hid hoh
      clear hoh y3
      by_cases hlt : k < t.fFields.length
      · have hpb : fieldB t.fFields[k] = true := List.all_eq_true.1 Hall.out _ (List.getElem_mem hlt)
        have hsz := catP_size fieldPart 17 fieldPart_size (t.fFields.take k)
        have htl : (t.fFields.take k).length = k := by rw [List.length_take]; omega
        have hnx : catP fieldPart (t.fFields.take (k + 1)) = catP fieldPart (t.fFields.take k) ++ fieldPart t.fFields[k] := by rw [take_more hlt, catP_snoc]
        have hpp : fieldPart t.fFields[k] = byteB t.fFields[k].fMark ++ (mayPart t.fFields[k].fName ++ numPart t.fFields[k].fType) := rfl
        rw [htl] at hsz
        clear htl
        obtain ⟨pb, po, cs, hpa, _, hpbl, hc, hat⟩ := (Rows.below Hr.out (OH.out.2.2.2.2.2.2)) k hlt
        obtain rfl : cs = [.string t.fFields[k].fName, .int .i64 t.fFields[k].fMark, .int .i64 t.fFields[k].fType] := hat
        subst hpa
        have hn3 : fieldS.n = 3 := rfl
        rw [hn3] at hc
        have d0 := hc 0 (by decide)
        have d1 := hc 1 (by decide)
        have d2 := hc 2 (by decide)
        simp at d0 d1 d2
        unfold fieldB at hpb
        simp only [Bool.and_eq_true, decide_eq_true_eq] at hpb
        obtain ⟨_, hnb, ⟨hwn, _⟩, _⟩ := hpb
        have G1 := Lib.hid (fun W => sNamed t.fFields[k].fName W hnb)
        have G2 := Lib.hid (fun W => sNum7 t.fFields[k].fType W hwn)
        have g1 := mayPart_size t.fFields[k].fName
        have g2 := numPart_size t.fFields[k].fType
        have hbb : byteB t.fFields[k].fMark = strOfNums [IntKind.u8.wrap t.fFields[k].fMark] := by unfold byteB; rw [wrap8y]
        have g0 : (strOfNums [IntKind.u8.wrap t.fFields[k].fMark]).size = 1 := by rw [strOfNums_size]; rfl
        have KB := Lib.hid (fun W g (h : Box W g 5 #[.int .u8 (IntKind.u8.wrap t.fFields[k].fMark)]) => conv_box1 h)
        rw [hbb] at hpp
        clear hbb
        generalize strOfNums [IntKind.u8.wrap t.fFields[k].fMark] = MB at *
        generalize mayPart t.fFields[k].fName = N1 at *
        generalize numPart t.fFields[k].fType = N2 at *
        generalize t.fFields[k].fName = fn at *
        generalize t.fFields[k].fType = fy at *
        generalize t.fFields[k].fMark = fm at *
        have hqs : (PP ++ catP fieldPart (t.fFields.take k)).size ≤ 38 + 17 * 1000 := by
          rw [ByteArray.size_append]
          have : k * 17 ≤ 1000 * 17 := Nat.mul_le_mul_right 17 (by omega)
          omega
        have HNX := Lib.hid (show Value.string (PP ++ catP fieldPart (t.fFields.take k) ++ (MB ++ N1 ++ N2)) = Value.string (PP ++ catP fieldPart (t.fFields.take (k + 1))) by rw [hnx, hpp, ba_assoc, ba_assoc MB N1 N2])
        generalize PP ++ catP fieldPart (t.fFields.take k) = Q at *
        clear hc hnb hwn hsz hnx hpp
        have hzq : ¬ 9223372036854775807 < MB.size + N1.size := by omega
        have hzr : ¬ 9223372036854775807 < MB.size + N1.size + N2.size := by omega
        have hzt : ¬ 9223372036854775807 < Q.size + (MB.size + N1.size + N2.size) := by omega
        replace OH := Lib.hid (show FldHeld w wl.heap.size fn fm fy t (some ⟨pb, po, none⟩) c (wl.alloc (.cells #[.string fn, .int .i64 fm, .int .i64 fy] 135)) from ⟨(Box.new _ _ _).cell 0, (Box.new _ _ _).cell 1, (Box.new _ _ _).cell 2, OH.out.alloc _⟩)
        clear g0 g1 g2
        go_wp2_with fail
        refine wp_region_held_drew (S := FldHeld w wl.heap.size fn fm fy t (some ⟨pb, po, none⟩) c) (by kernel_rfl) ?_ (fun hHeld => ?_)
        · exact OH.out.drew
        replace OH := Lib.hid OH.out.drew
        generalize (wl.alloc (.cells #[.string fn, .int .i64 fm, .int .i64 fy] 135)).drew = we at *
        refine tkP (i := 0) (v := .string Q) rfl ?_
        try simp only [Act.put, pA, pB, pC]
        refine tkP (i := 1) (v := .pointer (some ⟨wl.heap.size, 1, none⟩)) rfl ?_
        try simp only [Act.put, pA, pB, pC]
        refine tkC (i := 2) (v := .int .i64 fm) rfl (Or.inl ⟨by rfl, ?_⟩) ?_
        · intro wS hSw
          obtain ⟨f0, f1, f2, _⟩ := hSw
          go_simp
        try simp only [Act.put, pA, pB, pC]
        refine tkP (i := 3) (v := .int .u8 (IntKind.u8.wrap fm)) rfl ?_
        try simp only [Act.put, pA, pB, pC]
        refine tkP (i := 6) (v := .pointer (some ⟨wl.heap.size, 0, none⟩)) rfl ?_
        try simp only [Act.put, pA, pB, pC]
        refine tkC (i := 7) (v := .string fn) rfl (Or.inl ⟨by rfl, ?_⟩) ?_
        · intro wS hSw
          obtain ⟨f0, f1, f2, _⟩ := hSw
          go_simp
        try simp only [Act.put, pA, pB, pC]
        refine tkP (i := 10) (v := .pointer (some ⟨wl.heap.size, 2, none⟩)) rfl ?_
        try simp only [Act.put, pA, pB, pC]
        refine tkC (i := 11) (v := .int .i64 fy) rfl (Or.inl ⟨by rfl, ?_⟩) ?_
        · intro wS hSw
          obtain ⟨f0, f1, f2, _⟩ := hSw
          go_simp
        try simp only [Act.put, pA, pB, pC]
        refine wpAnyH_ready (rs := [4, 8]) (by kernel_rfl) (by simp) ?_
        refine rdC rfl (fun K hK => ?_) (rdC rfl (fun K hK => ?_) AllReadyH.nil)
        · go_simp
          replace OH := Lib.hid (OH.out.alloc (.cells #[.int .u8 (IntKind.u8.wrap fm)] 5))
          have BX := Lib.hid (Box.new we 5 #[.int .u8 (IntKind.u8.wrap fm)])
          obtain ⟨gx, hgx⟩ : ∃ z, z = we.heap.size := ⟨_, rfl⟩
          rw [← hgx] at BX
          rw [← hgx]
          clear hgx
          generalize we.alloc (.cells #[.int .u8 (IntKind.u8.wrap fm)] 5) = wa at *
          refine hK.out _ _ ?_ (fun hHeld2 => ?_)
          · exact OH.out
          clear hK K hHeld
          have hHeld := hHeld2
          clear hHeld2
          try simp only [Act.put, pA, pB, pC]
          refine wpAnyH_ready (rs := [5, 8]) (by kernel_rfl) (by simp) ?_
          refine rdC rfl (fun K hK => ?_) (rdC rfl (fun K hK => ?_) AllReadyH.nil)
          · have kv := KB.out _ _ BX.out
            go_simp
            clear kv BX
            refine hK.out _ _ ?_ (fun hHeld2 => ?_)
            · exact OH.out
            clear hK K hHeld
            have hHeld := hHeld2
            clear hHeld2
            try simp only [Act.put, pA, pB, pC]
            refine wpAnyH_ready (rs := [8]) (by kernel_rfl) (by simp) ?_
            refine rdC rfl (fun K hK => ?_) AllReadyH.nil
            go_simp
            go_at_call 131
            refine (G1.out _).mono ?_
            rintro e wc0 ⟨rfl, hbc⟩
            replace OH := Lib.hid (OH.out.below hbc)
            clear hbc
            refine hK.out _ _ ?_ (fun hHeld2 => ?_)
            · exact OH.out
            clear hK K hHeld
            have hHeld := hHeld2
            clear hHeld2
            try simp only [Act.put, pA, pB, pC]
            refine tkP (i := 9) (v := .string (MB ++ N1)) rfl ?_
            try simp only [Act.put, pA, pB, pC]
            refine wpAnyH_ready (rs := [12]) (by kernel_rfl) (by simp) ?_
            refine rdC rfl (fun K hK => ?_) AllReadyH.nil
            go_simp
            go_at_call 91
            refine (G2.out _).mono ?_
            rintro e wc1 ⟨rfl, hbc⟩
            replace OH := Lib.hid (OH.out.below hbc)
            clear hbc
            refine hK.out _ _ ?_ (fun hHeld2 => ?_)
            · exact OH.out
            clear hK K hHeld
            have hHeld := hHeld2
            clear hHeld2
            try simp only [Act.put, pA, pB, pC]
            refine tkP (i := 13) (v := .string (MB ++ N1 ++ N2)) rfl ?_
            try simp only [Act.put, pA, pB, pC]
            refine tkP (i := 14) (v := .string (Q ++ (MB ++ N1 ++ N2))) rfl ?_
            try simp only [Act.put, pA, pB, pC]
            refine tkP (i := 15) (v := .string (Q ++ (MB ++ N1 ++ N2))) rfl ?_
            try simp only [Act.put, pA, pB, pC]
            refine wpAnyH_done (by kernel_rfl) ?_ _
            clear hHeld
            go_wp2_with fail
            exact ⟨⟨k + 1, by congr 1, HNX.out, by omega, OH.out.2.2.2⟩, by simp [intOf]; omega⟩
          · go_simp
            go_at_call 131
            refine (G1.out _).mono ?_
            rintro e wc0 ⟨rfl, hbc⟩
            replace OH := Lib.hid (OH.out.below hbc)
            replace BX := Lib.hid (BX.out.below hbc BX.out.lt)
            clear hbc
            refine hK.out _ _ ?_ (fun hHeld2 => ?_)
            · exact OH.out
            clear hK K hHeld
            have hHeld := hHeld2
            clear hHeld2
            try simp only [Act.put, pA, pB, pC]
            refine wpAnyH_ready (rs := [5, 12]) (by kernel_rfl) (by simp) ?_
            refine rdC rfl (fun K hK => ?_) (rdC rfl (fun K hK => ?_) AllReadyH.nil)
            · have kv := KB.out _ _ BX.out
              go_simp
              clear kv BX
              refine hK.out _ _ ?_ (fun hHeld2 => ?_)
              · exact OH.out
              clear hK K hHeld
              have hHeld := hHeld2
              clear hHeld2
              try simp only [Act.put, pA, pB, pC]
              refine tkP (i := 9) (v := .string (MB ++ N1)) rfl ?_
              try simp only [Act.put, pA, pB, pC]
              refine wpAnyH_ready (rs := [12]) (by kernel_rfl) (by simp) ?_
              refine rdC rfl (fun K hK => ?_) AllReadyH.nil
              go_simp
              go_at_call 91
              refine (G2.out _).mono ?_
              rintro e wc1 ⟨rfl, hbc⟩
              replace OH := Lib.hid (OH.out.below hbc)
              clear hbc
              refine hK.out _ _ ?_ (fun hHeld2 => ?_)
              · exact OH.out
              clear hK K hHeld
              have hHeld := hHeld2
              clear hHeld2
              try simp only [Act.put, pA, pB, pC]
              refine tkP (i := 13) (v := .string (MB ++ N1 ++ N2)) rfl ?_
              try simp only [Act.put, pA, pB, pC]
              refine tkP (i := 14) (v := .string (Q ++ (MB ++ N1 ++ N2))) rfl ?_
              try simp only [Act.put, pA, pB, pC]
              refine tkP (i := 15) (v := .string (Q ++ (MB ++ N1 ++ N2))) rfl ?_
              try simp only [Act.put, pA, pB, pC]
              refine wpAnyH_done (by kernel_rfl) ?_ _
              clear hHeld
              go_wp2_with fail
              exact ⟨⟨k + 1, by congr 1, HNX.out, by omega, OH.out.2.2.2⟩, by simp [intOf]; omega⟩
            · go_simp
              go_at_call 91
              refine (G2.out _).mono ?_
              rintro e wc1 ⟨rfl, hbc⟩
              replace OH := Lib.hid (OH.out.below hbc)
              replace BX := Lib.hid (BX.out.below hbc BX.out.lt)
              clear hbc
              refine hK.out _ _ ?_ (fun hHeld2 => ?_)
              · exact OH.out
              clear hK K hHeld
              have hHeld := hHeld2
              clear hHeld2
              try simp only [Act.put, pA, pB, pC]
              refine wpAnyH_ready (rs := [5]) (by kernel_rfl) (by simp) ?_
              refine rdC rfl (fun K hK => ?_) AllReadyH.nil
              have kv := KB.out _ _ BX.out
              go_simp
              clear kv BX
              refine hK.out _ _ ?_ (fun hHeld2 => ?_)
              · exact OH.out
              clear hK K hHeld
              have hHeld := hHeld2
              clear hHeld2
              try simp only [Act.put, pA, pB, pC]
              refine tkP (i := 9) (v := .string (MB ++ N1)) rfl ?_
              try simp only [Act.put, pA, pB, pC]
              refine tkP (i := 13) (v := .string (MB ++ N1 ++ N2)) rfl ?_
              try simp only [Act.put, pA, pB, pC]
              refine tkP (i := 14) (v := .string (Q ++ (MB ++ N1 ++ N2))) rfl ?_
              try simp only [Act.put, pA, pB, pC]
              refine tkP (i := 15) (v := .string (Q ++ (MB ++ N1 ++ N2))) rfl ?_
              try simp only [Act.put, pA, pB, pC]
              refine wpAnyH_done (by kernel_rfl) ?_ _
              clear hHeld
              go_wp2_with fail
              exact ⟨⟨k + 1, by congr 1, HNX.out, by omega, OH.out.2.2.2⟩, by simp [intOf]; omega⟩
        · go_simp
          go_at_call 131
          refine (G1.out _).mono ?_
          rintro e wc0 ⟨rfl, hbc⟩
          replace OH := Lib.hid (OH.out.below hbc)
          clear hbc
          refine hK.out _ _ ?_ (fun hHeld2 => ?_)
          · exact OH.out
          clear hK K hHeld
          have hHeld := hHeld2
          clear hHeld2
          try simp only [Act.put, pA, pB, pC]
          refine wpAnyH_ready (rs := [4, 12]) (by kernel_rfl) (by simp) ?_
          refine rdC rfl (fun K hK => ?_) (rdC rfl (fun K hK => ?_) AllReadyH.nil)
          · go_simp
            replace OH := Lib.hid (OH.out.alloc (.cells #[.int .u8 (IntKind.u8.wrap fm)] 5))
            have BX := Lib.hid (Box.new wc0 5 #[.int .u8 (IntKind.u8.wrap fm)])
            obtain ⟨gx, hgx⟩ : ∃ z, z = wc0.heap.size := ⟨_, rfl⟩
            rw [← hgx] at BX
            rw [← hgx]
            clear hgx
            generalize wc0.alloc (.cells #[.int .u8 (IntKind.u8.wrap fm)] 5) = wa at *
            refine hK.out _ _ ?_ (fun hHeld2 => ?_)
            · exact OH.out
            clear hK K hHeld
            have hHeld := hHeld2
            clear hHeld2
            try simp only [Act.put, pA, pB, pC]
            refine wpAnyH_ready (rs := [5, 12]) (by kernel_rfl) (by simp) ?_
            refine rdC rfl (fun K hK => ?_) (rdC rfl (fun K hK => ?_) AllReadyH.nil)
            · have kv := KB.out _ _ BX.out
              go_simp
              clear kv BX
              refine hK.out _ _ ?_ (fun hHeld2 => ?_)
              · exact OH.out
              clear hK K hHeld
              have hHeld := hHeld2
              clear hHeld2
              try simp only [Act.put, pA, pB, pC]
              refine tkP (i := 9) (v := .string (MB ++ N1)) rfl ?_
              try simp only [Act.put, pA, pB, pC]
              refine wpAnyH_ready (rs := [12]) (by kernel_rfl) (by simp) ?_
              refine rdC rfl (fun K hK => ?_) AllReadyH.nil
              go_simp
              go_at_call 91
              refine (G2.out _).mono ?_
              rintro e wc1 ⟨rfl, hbc⟩
              replace OH := Lib.hid (OH.out.below hbc)
              clear hbc
              refine hK.out _ _ ?_ (fun hHeld2 => ?_)
              · exact OH.out
              clear hK K hHeld
              have hHeld := hHeld2
              clear hHeld2
              try simp only [Act.put, pA, pB, pC]
              refine tkP (i := 13) (v := .string (MB ++ N1 ++ N2)) rfl ?_
              try simp only [Act.put, pA, pB, pC]
              refine tkP (i := 14) (v := .string (Q ++ (MB ++ N1 ++ N2))) rfl ?_
              try simp only [Act.put, pA, pB, pC]
              refine tkP (i := 15) (v := .string (Q ++ (MB ++ N1 ++ N2))) rfl ?_
              try simp only [Act.put, pA, pB, pC]
              refine wpAnyH_done (by kernel_rfl) ?_ _
              clear hHeld
              go_wp2_with fail
              exact ⟨⟨k + 1, by congr 1, HNX.out, by omega, OH.out.2.2.2⟩, by simp [intOf]; omega⟩
            · go_simp
              go_at_call 91
              refine (G2.out _).mono ?_
              rintro e wc1 ⟨rfl, hbc⟩
              replace OH := Lib.hid (OH.out.below hbc)
              replace BX := Lib.hid (BX.out.below hbc BX.out.lt)
              clear hbc
              refine hK.out _ _ ?_ (fun hHeld2 => ?_)
              · exact OH.out
              clear hK K hHeld
              have hHeld := hHeld2
              clear hHeld2
              try simp only [Act.put, pA, pB, pC]
              refine wpAnyH_ready (rs := [5]) (by kernel_rfl) (by simp) ?_
              refine rdC rfl (fun K hK => ?_) AllReadyH.nil
              have kv := KB.out _ _ BX.out
              go_simp
              clear kv BX
              refine hK.out _ _ ?_ (fun hHeld2 => ?_)
              · exact OH.out
              clear hK K hHeld
              have hHeld := hHeld2
              clear hHeld2
              try simp only [Act.put, pA, pB, pC]
              refine tkP (i := 9) (v := .string (MB ++ N1)) rfl ?_
              try simp only [Act.put, pA, pB, pC]
              refine tkP (i := 13) (v := .string (MB ++ N1 ++ N2)) rfl ?_
              try simp only [Act.put, pA, pB, pC]
              refine tkP (i := 14) (v := .string (Q ++ (MB ++ N1 ++ N2))) rfl ?_
              try simp only [Act.put, pA, pB, pC]
              refine tkP (i := 15) (v := .string (Q ++ (MB ++ N1 ++ N2))) rfl ?_
              try simp only [Act.put, pA, pB, pC]
              refine wpAnyH_done (by kernel_rfl) ?_ _
              clear hHeld
              go_wp2_with fail
              exact ⟨⟨k + 1, by congr 1, HNX.out, by omega, OH.out.2.2.2⟩, by simp [intOf]; omega⟩
          · go_simp
            go_at_call 91
            refine (G2.out _).mono ?_
            rintro e wc1 ⟨rfl, hbc⟩
            replace OH := Lib.hid (OH.out.below hbc)
            clear hbc
            refine hK.out _ _ ?_ (fun hHeld2 => ?_)
            · exact OH.out
            clear hK K hHeld
            have hHeld := hHeld2
            clear hHeld2
            try simp only [Act.put, pA, pB, pC]
            refine wpAnyH_ready (rs := [4]) (by kernel_rfl) (by simp) ?_
            refine rdC rfl (fun K hK => ?_) AllReadyH.nil
            go_simp
            replace OH := Lib.hid (OH.out.alloc (.cells #[.int .u8 (IntKind.u8.wrap fm)] 5))
            have BX := Lib.hid (Box.new wc1 5 #[.int .u8 (IntKind.u8.wrap fm)])
            obtain ⟨gx, hgx⟩ : ∃ z, z = wc1.heap.size := ⟨_, rfl⟩
            rw [← hgx] at BX
            rw [← hgx]
            clear hgx
            generalize wc1.alloc (.cells #[.int .u8 (IntKind.u8.wrap fm)] 5) = wa at *
            refine hK.out _ _ ?_ (fun hHeld2 => ?_)
            · exact OH.out
            clear hK K hHeld
            have hHeld := hHeld2
            clear hHeld2
            try simp only [Act.put, pA, pB, pC]
            refine wpAnyH_ready (rs := [5]) (by kernel_rfl) (by simp) ?_
            refine rdC rfl (fun K hK => ?_) AllReadyH.nil
            have kv := KB.out _ _ BX.out
            go_simp
            clear kv BX
            refine hK.out _ _ ?_ (fun hHeld2 => ?_)
            · exact OH.out
            clear hK K hHeld
            have hHeld := hHeld2
            clear hHeld2
            try simp only [Act.put, pA, pB, pC]
            refine tkP (i := 9) (v := .string (MB ++ N1)) rfl ?_
            try simp only [Act.put, pA, pB, pC]
            refine tkP (i := 13) (v := .string (MB ++ N1 ++ N2)) rfl ?_
            try simp only [Act.put, pA, pB, pC]
            refine tkP (i := 14) (v := .string (Q ++ (MB ++ N1 ++ N2))) rfl ?_
            try simp only [Act.put, pA, pB, pC]
            refine tkP (i := 15) (v := .string (Q ++ (MB ++ N1 ++ N2))) rfl ?_
            try simp only [Act.put, pA, pB, pC]
            refine wpAnyH_done (by kernel_rfl) ?_ _
            clear hHeld
            go_wp2_with fail
            exact ⟨⟨k + 1, by congr 1, HNX.out, by omega, OH.out.2.2.2⟩, by simp [intOf]; omega⟩
      · obtain rfl : k = t.fFields.length := by omega
        rw [List.take_length, ← Fin.out]
        have hbl := OH.out.2.2.2.2.2.2
        clear Fin
        go_wp2_with fail
        go_ret
        exact ⟨rfl, hbl⟩
end Go.Proofs.YtaccifjkeblhpaaGreat
