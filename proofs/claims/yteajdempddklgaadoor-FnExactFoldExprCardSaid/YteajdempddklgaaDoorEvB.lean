
/-
  What is proved: contracts of the program's and the model's functions on known values, quotients and pairs of values. No condition beside what each theorem states.
-/
import Derived.Test.YteajdempddklgaaDoorEvA
import Derived.Test.YteajdempddklgaaDoorSExpr
namespace Go.Proofs.YteajdempddklgaaDoor
open Go.ChangeShapes Go.WideShapes Go.ChangeAt Go.RowKit
set_option maxRecDepth 100000

theorem floor_in {a : Int} (b : Int) (ha : wholeP a) : -1000000000 ≤ a.tdiv b ∧ a.tdiv b ≤ 1000000000 ∧ -1000000001 ≤ floorZ a b ∧ floorZ a b ≤ 1000000000 := by
  unfold wholeP at ha
  have h1 : (a.tdiv b).natAbs ≤ a.natAbs := by rw [Int.natAbs_tdiv]; exact Nat.div_le_self _ _
  have h2 : -1000000000 ≤ a.tdiv b ∧ a.tdiv b ≤ 1000000000 := by omega
  refine ⟨h2.1, h2.2, ?_⟩
  unfold floorZ
  split <;> omega
theorem rem_in {a : Int} (b : Int) (ha : wholeP a) : -1000000000 ≤ a.tmod b ∧ a.tmod b ≤ 1000000000 := by
  unfold wholeP at ha
  have h1 : (a.tmod b).natAbs ≤ a.natAbs := by rw [Int.natAbs_tmod]; exact Nat.mod_le _ _
  omega
theorem iFloor (a b : Int) (w : World) (ha : wholeP a) (h0 : b ≠ 0) : Calls Tryd.prog 141 #[.int .i64 a, .int .i64 b] w fun e w' => e = .returned (.int .i64 (floorZ a b)) ∧ w = w' := by
  obtain ⟨q1, q2, q3, q4⟩ := floor_in b ha
  obtain ⟨r1, r2⟩ := rem_in b ha
  unfold wholeP at ha
  have w1 : IntKind.i64.wrap (a.tdiv b) = a.tdiv b := IntWalk.i64_in _ (by omega)
  have w2 : IntKind.i64.wrap (a.tmod b) = a.tmod b := IntWalk.i64_in _ (by omega)
  go_enter Tryd.func141, Tryd.ntmps141
  go_wp2_with fail
  all_goals
    go_ret
    refine ⟨?_, rfl⟩
    show Ending.returned (Value.int IntKind.i64 _) = _
    congr 2
    unfold floorZ
    simp_all [bne]
theorem sFloor (a b : Int) (w : World) (ha : wholeP a) (h0 : b ≠ 0) : Calls Tryd.prog 108 #[.int .i64 a, .int .i64 b] w fun e w' => e = .returned (.int .i64 (floorZ a b)) ∧ w = w' := by
  obtain ⟨q1, q2, q3, q4⟩ := floor_in b ha
  obtain ⟨r1, r2⟩ := rem_in b ha
  unfold wholeP at ha
  have w1 : IntKind.i64.wrap (a.tdiv b) = a.tdiv b := IntWalk.i64_in _ (by omega)
  have w2 : IntKind.i64.wrap (a.tmod b) = a.tmod b := IntWalk.i64_in _ (by omega)
  go_enter Tryd.func108, Tryd.ntmps108
  go_wp2_with fail
  all_goals
    go_ret
    refine ⟨?_, rfl⟩
    show Ending.returned (Value.int IntKind.i64 _) = _
    congr 2
    unfold floorZ
    simp_all [bne]
theorem whole_dec (n : Int) : decide (wholeP n) = (decide (-1000000000 ≤ n) && decide (n ≤ 1000000000)) := by
  rw [Bool.eq_iff_iff, Bool.and_eq_true, decide_eq_true_eq, decide_eq_true_eq, decide_eq_true_eq]
  exact Iff.rfl
theorem iWhole (n : Int) (w : World) : Calls Tryd.prog 77 #[.int .i64 n] w fun e w' => e = .returned (.bool (decide (wholeP n))) ∧ w = w' := by
  go_enter Tryd.func77, Tryd.ntmps77
  go_wp2_with fail
  all_goals
    go_ret
    refine ⟨?_, rfl⟩
    show Ending.returned (Value.bool _) = _
    congr 2
    rw [whole_dec, Bool.eq_iff_iff]
    simp
    try omega
theorem iWholeAs {n : Int} {q : Bool} {w : World} (h : decide (wholeP n) = q) : Calls Tryd.prog 77 #[.int .i64 n] w fun e w' => e = .returned (.bool q) ∧ w = w' := h ▸ iWhole n w
theorem sWholeAs {n : Int} {q : Bool} {w : World} (h : decide (wholeP n) = q) : Calls Tryd.prog 74 #[.int .i64 n, .int .i64 (-1000000000), .int .i64 1000000000] w fun e w' => e = .returned (.bool q) ∧ w = w' := by
  refine sInAs ?_
  rw [← h, whole_dec]

/-- Known values as they may be. -/
def knownsP (ks : List KnownD) : Prop := ks.length ≤ 40 ∧ ∀ k ∈ ks, wholeP k.fValue
open Classical in
noncomputable def knownsB (ks : List KnownD) : Bool := decide (knownsP ks)
theorem knownsB_true {ks : List KnownD} (h : knownsP ks) : knownsB ks = true := by unfold knownsB; simpa using h
theorem knownsB_false {ks : List KnownD} (h : ¬ knownsP ks) : knownsB ks = false := by unfold knownsB; simpa using h

set_option maxHeartbeats 2000000 in
theorem iAreKnown (a : Option Addr) (c : Nat) (l : List KnownD) (w : World) (hl : l.length ≤ 1048576) (hr : Rows knownS Any w a l) : Calls Tryd.prog 46 #[.slice a l.length c] w fun e w' => e = .returned (.bool (knownsB l)) ∧ Below w.heap.size w w' := by
  have Hr := Lib.hid hr
  clear hr
  go_enter Tryd.func46, Tryd.ntmps46
  by_cases h40 : l.length ≤ 40
  · go_wp2_with fail
    go_loopw [10] (fun i wr => ∃ k : Nat, i = .int .i64 k ∧ k ≤ l.length ∧ (∀ j (hj : j < l.length), j < k → wholeP l[j].fValue) ∧ Below w.heap.size w wr) (fun i _ => l.length - (intOf i).toNat)
    case atStart => exact ⟨0, rfl, by omega, fun j _ hj => absurd hj (by omega), Below.refl _ _⟩
    case round =>
      obtain ⟨k, rfl, hk, hall, hbel⟩ := hrel
      have Hall := Lib.hid hall
      clear hall
      by_cases hlt : k < l.length
      · obtain ⟨b, o, cs, rfl, _, hb1, hc1, hat⟩ := Hr.out k hlt
        obtain rfl : cs = [.string l[k].fMod, .string l[k].fName, .int .i64 l[k].fValue] := hat
        have e0 := (hbel.cell (p := ⟨b, o + k * 3 + 0, none⟩) hb1).trans (hc1 0 (by decide))
        have e1 := (hbel.cell (p := ⟨b, o + k * 3 + 1, none⟩) hb1).trans (hc1 1 (by decide))
        have e2 := (hbel.cell (p := ⟨b, o + k * 3 + 2, none⟩) hb1).trans (hc1 2 (by decide))
        simp at e0 e1 e2
        have hsz := hbel.size
        have Hbel := Lib.hid hbel
        clear hbel hc1
        by_cases hw : wholeP l[k].fValue
        · have Hall' := Lib.hid (show ∀ j (hj : j < l.length), j < k + 1 → wholeP l[j].fValue from fun j hj hjk => by
            by_cases e : j = k
            · subst e; exact hw
            · exact Hall.out j hj (by omega))
          have hwb := decide_eq_true hw
          clear hw
          generalize l[k] = z at *
          go_wp2_with (go_at_call 77; refine (iWholeAs hwb).mono ?_; rintro e w' ⟨rfl, rfl⟩)
          exact ⟨⟨k + 1, by congr 1, by omega, Hall'.out, Hbel.out.alloc hsz _⟩, by simp [intOf]; omega⟩
        · have Hn := Lib.hid (knownsB_false (ks := l) (fun h => hw (h.2 _ (List.getElem_mem hlt))))
          have hwb := decide_eq_false hw
          clear hw
          generalize l[k] = z at *
          go_wp2_with (go_at_call 77; refine (iWholeAs hwb).mono ?_; rintro e w' ⟨rfl, rfl⟩)
          go_ret
          exact ⟨by rw [Hn.out]; rfl, Hbel.out.alloc hsz _⟩
      · have Hy := Lib.hid (knownsB_true (ks := l) ⟨h40, fun k hk => by
          obtain ⟨j, hj, rfl⟩ := List.getElem_of_mem hk
          exact Hall.out j hj (by omega)⟩)
        have Hbel := Lib.hid hbel
        clear hbel
        go_wp2_with fail
        go_ret
        exact ⟨by rw [Hy.out]; rfl, Hbel.out⟩
  · have Hn := Lib.hid (knownsB_false (ks := l) (fun h => h40 h.1))
    go_wp2_with fail
    go_ret
    exact ⟨by rw [Hn.out]; rfl, Below.refl _ _⟩

set_option maxHeartbeats 2000000 in
theorem sl5Known (a : Option Addr) (c : Nat) (l : List KnownD) (w : World) (hl : l.length ≤ 1048576) (hr : Rows knownS Any w a l) : Calls Tryd.prog 41 #[.slice a l.length c] w fun e w' => e = .returned (.bool (knownsB l)) ∧ Below w.heap.size w w' := by
  have Hr := Lib.hid hr
  clear hr
  go_enter Tryd.func41, Tryd.ntmps41
  go_wp2_with fail
  go_loopw [7] (fun i wr => ∃ k : Nat, i = .int .i64 k ∧ k ≤ l.length ∧ (∀ j (hj : j < l.length), j < k → wholeP l[j].fValue) ∧ Below w.heap.size w wr) (fun i _ => l.length - (intOf i).toNat)
  case atStart => exact ⟨0, rfl, by omega, fun j _ hj => absurd hj (by omega), Below.refl _ _⟩
  case round =>
    obtain ⟨k, rfl, hk, hall, hbel⟩ := hrel
    have Hall := Lib.hid hall
    clear hall
    by_cases hlt : k < l.length
    · obtain ⟨b, o, cs, rfl, _, hb1, hc1, hat⟩ := Hr.out k hlt
      obtain rfl : cs = [.string l[k].fMod, .string l[k].fName, .int .i64 l[k].fValue] := hat
      have e0 := (hbel.cell (p := ⟨b, o + k * 3 + 0, none⟩) hb1).trans (hc1 0 (by decide))
      have e1 := (hbel.cell (p := ⟨b, o + k * 3 + 1, none⟩) hb1).trans (hc1 1 (by decide))
      have e2 := (hbel.cell (p := ⟨b, o + k * 3 + 2, none⟩) hb1).trans (hc1 2 (by decide))
      simp at e0 e1 e2
      have hsz := hbel.size
      have Hbel := Lib.hid hbel
      clear hbel hc1
      by_cases hw : wholeP l[k].fValue
      · have Hall' := Lib.hid (show ∀ j (hj : j < l.length), j < k + 1 → wholeP l[j].fValue from fun j hj hjk => by
          by_cases e : j = k
          · subst e; exact hw
          · exact Hall.out j hj (by omega))
        have hwb := decide_eq_true hw
        clear hw
        generalize l[k] = z at *
        go_wp2_with (go_at_call 74; refine (sWholeAs hwb).mono ?_; rintro e w' ⟨rfl, rfl⟩)
        exact ⟨⟨k + 1, by congr 1, by omega, Hall'.out, Hbel.out.alloc hsz _⟩, by simp [intOf]; omega⟩
      · have Hn := Lib.hid (knownsB_false (ks := l) (fun h => hw (h.2 _ (List.getElem_mem hlt))))
        have hwb := decide_eq_false hw
        clear hw
        generalize l[k] = z at *
        go_wp2_with (go_at_call 74; refine (sWholeAs hwb).mono ?_; rintro e w' ⟨rfl, rfl⟩)
        go_ret
        exact ⟨by rw [Hn.out]; rfl, Hbel.out.alloc hsz _⟩
    · have Hq := Lib.hid (show knownsB l = decide ((l.length : Int) ≤ 40) by
        by_cases h40 : l.length ≤ 40
        · rw [decide_eq_true (by omega)]
          exact knownsB_true ⟨h40, fun k hk => by
            obtain ⟨j, hj, rfl⟩ := List.getElem_of_mem hk
            exact Hall.out j hj (by omega)⟩
        · rw [decide_eq_false (by omega)]
          exact knownsB_false (fun h => h40 h.1))
      have Hbel := Lib.hid hbel
      clear hbel
      go_wp2_with fail
      go_ret
      exact ⟨by rw [Hq.out]; rfl, Hbel.out⟩
end Go.Proofs.YteajdempddklgaaDoor
