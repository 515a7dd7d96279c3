
/-
  What is proved: the contract of the model's l3Type. No condition beside what each theorem states.
-/
import Derived.Test.YtllddjmcemcdhaaGreatSFields
namespace Go.Proofs.YtllddjmcemcdhaaGreat
open Go.ChangeShapes Go.WideShapes Go.ChangeAt Go.RowKit

/-- What is known of a type, so that its texts and lists can be looked at. -/
def TypeD.mod (t : TypeD) : Prop := t.fOwner.size ≤ maxLen ∧ t.fName.size ≤ maxLen ∧ t.fFields.length ≤ 1048576 ∧ ∀ f ∈ t.fFields, f.fName.size ≤ maxLen

set_option maxRecDepth 100000 in
set_option maxHeartbeats 4000000 in
theorem sl3Type (a : Option Addr) (c : Nat) (l : List TypeD) (t : TypeD) (a3 : Option Addr) (c3 : Nat) (w : World) (hl : l.length ≤ 1048576) (hr : Rows typeS Any w a l) (hm : t.mod) (hf : Rows fieldS Any w a3 t.fFields) (hfc : t.fFields.length ≤ c3) :
    Calls Tryz.prog 91 #[.slice a l.length c, .agg #[.int .i64 t.fKind, .int .i64 t.fLong, .int .i64 t.fBase, .slice a3 t.fFields.length c3, .string t.fOwner, .string t.fName]] w fun e w' => e = .returned (.bool (typeB l t)) ∧ Below w.heap.size w w' := by
  obtain ⟨hs1, hs2, hs3, hs4⟩ := hm
  have R := Lib.hid hr
  have F := Lib.hid hf
  clear hr hf
  by_cases hC : calledOk t.fOwner t.fName
  · by_cases hN : nameP t.fOwner ∧ nameP t.fName
    · have qo := nameB_true hN.1
      have qn := nameB_true hN.2
      clear hN
      by_cases hk5 : t.fKind = 5
      · by_cases hl0 : t.fLong = 0
        · by_cases hb1 : t.fBase = -1
          · have hb2 : (t.fBase == -1) = true := beq_iff_eq.2 hb1
            have Hv := Lib.hid (show typeB l t = fieldsB l.length t.fFields from by
              by_cases hF : fieldsOk l.length t.fFields
              · rw [fieldsB_true hF, typeB_true ⟨hC, .inr (.inl ⟨hk5, hl0, .inl hb1, hF⟩)⟩]
              · rw [fieldsB_false hF, typeB_false]
                rintro ⟨_, ⟨h, _⟩ | ⟨_, _, _, h⟩ | ⟨h, _⟩⟩
                · omega
                · exact hF h
                · omega)
            go_enter Tryz.func91, Tryz.ntmps91
            go_wp2_with (first | (go_at_call 39; refine (sl1Name _ _ (by first | exact hs1 | exact hs2)).mono ?_; rintro e w' ⟨rfl, rfl⟩) | (go_at_call 17; refine (sIn_yes _ _ _ _ (by omega) (by omega)).mono ?_; rintro e w' ⟨rfl, rfl⟩) | (go_at_call 17; refine (sIn_no _ _ _ _ (by omega)).mono ?_; rintro e w' ⟨rfl, rfl⟩) | (go_at_call 116; refine (sl3Kind _ _ l _ _ _ _ hl (by decide) (by decide) (R.out.below ((Below.refl _ _).alloc (Nat.le_refl _) _))).mono ?_; rintro e w' ⟨rfl, rfl⟩) | (go_at_call 117; refine (sl3Fields _ _ _ _ _ t.fFields _ hl hs3 hfc hs4 (F.out.below ((Below.refl _ _).alloc (Nat.le_refl _) _))).mono ?_; rintro e w' ⟨rfl, hbF⟩))
            go_ret
            exact ⟨by rw [Hv.out]; rfl, ((Below.refl w.heap.size w).alloc (Nat.le_refl _) _).trans (hbF.mono (by simp))⟩
          · by_cases hb5 : kindZ l t.fBase = 5
            · skip
              have Hv := Lib.hid (show typeB l t = fieldsB l.length t.fFields from by
                by_cases hF : fieldsOk l.length t.fFields
                · rw [fieldsB_true hF, typeB_true ⟨hC, .inr (.inl ⟨hk5, hl0, .inr hb5, hF⟩)⟩]
                · rw [fieldsB_false hF, typeB_false]
                  rintro ⟨_, ⟨h, _⟩ | ⟨_, _, _, h⟩ | ⟨h, _⟩⟩
                  · omega
                  · exact hF h
                  · omega)
              go_enter Tryz.func91, Tryz.ntmps91
              go_wp2_with (first | (go_at_call 39; refine (sl1Name _ _ (by first | exact hs1 | exact hs2)).mono ?_; rintro e w' ⟨rfl, rfl⟩) | (go_at_call 17; refine (sIn_yes _ _ _ _ (by omega) (by omega)).mono ?_; rintro e w' ⟨rfl, rfl⟩) | (go_at_call 17; refine (sIn_no _ _ _ _ (by omega)).mono ?_; rintro e w' ⟨rfl, rfl⟩) | (go_at_call 116; refine (sl3Kind _ _ l _ _ _ _ hl (by decide) (by decide) (R.out.below ((Below.refl _ _).alloc (Nat.le_refl _) _))).mono ?_; rintro e w' ⟨rfl, rfl⟩) | (go_at_call 117; refine (sl3Fields _ _ _ _ _ t.fFields _ hl hs3 hfc hs4 (F.out.below ((Below.refl _ _).alloc (Nat.le_refl _) _))).mono ?_; rintro e w' ⟨rfl, hbF⟩))
              go_ret
              exact ⟨by rw [Hv.out]; rfl, ((Below.refl w.heap.size w).alloc (Nat.le_refl _) _).trans (hbF.mono (by simp))⟩
            · skip
              have Hv := Lib.hid (show typeB l t = false from typeB_false (by
                rintro ⟨_, ⟨h, _⟩ | ⟨_, h0, hb, h⟩ | ⟨h, _⟩⟩
                · omega
                · exact hb.elim hb1 hb5
                · omega))
              go_enter Tryz.func91, Tryz.ntmps91
              go_wp2_with (first | (go_at_call 39; refine (sl1Name _ _ (by first | exact hs1 | exact hs2)).mono ?_; rintro e w' ⟨rfl, rfl⟩) | (go_at_call 17; refine (sIn_yes _ _ _ _ (by omega) (by omega)).mono ?_; rintro e w' ⟨rfl, rfl⟩) | (go_at_call 17; refine (sIn_no _ _ _ _ (by omega)).mono ?_; rintro e w' ⟨rfl, rfl⟩) | (go_at_call 116; refine (sl3Kind _ _ l _ _ _ _ hl (by decide) (by decide) (R.out.below ((Below.refl _ _).alloc (Nat.le_refl _) _))).mono ?_; rintro e w' ⟨rfl, rfl⟩) | (go_at_call 117; refine (sl3Fields _ _ _ _ _ t.fFields _ hl hs3 hfc hs4 (F.out.below ((Below.refl _ _).alloc (Nat.le_refl _) _))).mono ?_; rintro e w' ⟨rfl, hbF⟩))
              go_ret
              exact ⟨by rw [Hv.out]; rfl, (Below.refl w.heap.size w).alloc (Nat.le_refl _) _⟩
        · have hl1 : (t.fLong == 0) = false := beq_eq_false_iff_ne.2 hl0
          have Hv := Lib.hid (show typeB l t = false from typeB_false (by
            rintro ⟨_, ⟨h, _⟩ | ⟨_, h0, hb, h⟩ | ⟨h, _⟩⟩
            · omega
            · exact hl0 h0
            · omega))
          go_enter Tryz.func91, Tryz.ntmps91
          go_wp2_with (first | (go_at_call 39; refine (sl1Name _ _ (by first | exact hs1 | exact hs2)).mono ?_; rintro e w' ⟨rfl, rfl⟩) | (go_at_call 17; refine (sIn_yes _ _ _ _ (by omega) (by omega)).mono ?_; rintro e w' ⟨rfl, rfl⟩) | (go_at_call 17; refine (sIn_no _ _ _ _ (by omega)).mono ?_; rintro e w' ⟨rfl, rfl⟩) | (go_at_call 116; refine (sl3Kind _ _ l _ _ _ _ hl (by decide) (by decide) (R.out.below ((Below.refl _ _).alloc (Nat.le_refl _) _))).mono ?_; rintro e w' ⟨rfl, rfl⟩) | (go_at_call 117; refine (sl3Fields _ _ _ _ _ t.fFields _ hl hs3 hfc hs4 (F.out.below ((Below.refl _ _).alloc (Nat.le_refl _) _))).mono ?_; rintro e w' ⟨rfl, hbF⟩))
          go_ret
          exact ⟨by rw [Hv.out]; rfl, (Below.refl w.heap.size w).alloc (Nat.le_refl _) _⟩
      by_cases hfz : t.fFields.length = 0
      · by_cases hk4 : t.fKind = 4
        · by_cases hL : 1 ≤ t.fLong ∧ t.fLong ≤ 1000
          · by_cases hB : 0 ≤ t.fBase ∧ t.fBase ≤ (l.length : Int) - 1
            · have hfz2 : ¬ (0 : Int) < (t.fFields.length : Int) := by omega
              have Hv := Lib.hid (show typeB l t = true from typeB_true ⟨hC, .inl ⟨hk4, hL, ⟨hB.1, by omega⟩, hfz⟩⟩)
              go_enter Tryz.func91, Tryz.ntmps91
              go_wp2_with (first | (go_at_call 39; refine (sl1Name _ _ (by first | exact hs1 | exact hs2)).mono ?_; rintro e w' ⟨rfl, rfl⟩) | (go_at_call 17; refine (sIn_yes _ _ _ _ (by omega) (by omega)).mono ?_; rintro e w' ⟨rfl, rfl⟩) | (go_at_call 17; refine (sIn_no _ _ _ _ (by omega)).mono ?_; rintro e w' ⟨rfl, rfl⟩) | (go_at_call 116; refine (sl3Kind _ _ l _ _ _ _ hl (by decide) (by decide) (R.out.below ((Below.refl _ _).alloc (Nat.le_refl _) _))).mono ?_; rintro e w' ⟨rfl, rfl⟩) | (go_at_call 117; refine (sl3Fields _ _ _ _ _ t.fFields _ hl hs3 hfc hs4 (F.out.below ((Below.refl _ _).alloc (Nat.le_refl _) _))).mono ?_; rintro e w' ⟨rfl, hbF⟩))
              go_ret
              exact ⟨by rw [Hv.out]; rfl, (Below.refl w.heap.size w).alloc (Nat.le_refl _) _⟩
            · have hfz2 : ¬ (0 : Int) < (t.fFields.length : Int) := by omega
              have Hv := Lib.hid (show typeB l t = false from typeB_false (by
                rintro ⟨_, ⟨_, _, h, _⟩ | ⟨h, _⟩ | ⟨h, _⟩⟩
                · exact hB ⟨h.1, by omega⟩
                · omega
                · omega))
              go_enter Tryz.func91, Tryz.ntmps91
              go_wp2_with (first | (go_at_call 39; refine (sl1Name _ _ (by first | exact hs1 | exact hs2)).mono ?_; rintro e w' ⟨rfl, rfl⟩) | (go_at_call 17; refine (sIn_yes _ _ _ _ (by omega) (by omega)).mono ?_; rintro e w' ⟨rfl, rfl⟩) | (go_at_call 17; refine (sIn_no _ _ _ _ (by omega)).mono ?_; rintro e w' ⟨rfl, rfl⟩) | (go_at_call 116; refine (sl3Kind _ _ l _ _ _ _ hl (by decide) (by decide) (R.out.below ((Below.refl _ _).alloc (Nat.le_refl _) _))).mono ?_; rintro e w' ⟨rfl, rfl⟩) | (go_at_call 117; refine (sl3Fields _ _ _ _ _ t.fFields _ hl hs3 hfc hs4 (F.out.below ((Below.refl _ _).alloc (Nat.le_refl _) _))).mono ?_; rintro e w' ⟨rfl, hbF⟩))
              go_ret
              exact ⟨by rw [Hv.out]; rfl, (Below.refl w.heap.size w).alloc (Nat.le_refl _) _⟩
          · have hfz2 : ¬ (0 : Int) < (t.fFields.length : Int) := by omega
            have Hv := Lib.hid (show typeB l t = false from typeB_false (by
              rintro ⟨_, ⟨_, h, _⟩ | ⟨h, _⟩ | ⟨h, _⟩⟩
              · exact hL h
              · omega
              · omega))
            go_enter Tryz.func91, Tryz.ntmps91
            go_wp2_with (first | (go_at_call 39; refine (sl1Name _ _ (by first | exact hs1 | exact hs2)).mono ?_; rintro e w' ⟨rfl, rfl⟩) | (go_at_call 17; refine (sIn_yes _ _ _ _ (by omega) (by omega)).mono ?_; rintro e w' ⟨rfl, rfl⟩) | (go_at_call 17; refine (sIn_no _ _ _ _ (by omega)).mono ?_; rintro e w' ⟨rfl, rfl⟩) | (go_at_call 116; refine (sl3Kind _ _ l _ _ _ _ hl (by decide) (by decide) (R.out.below ((Below.refl _ _).alloc (Nat.le_refl _) _))).mono ?_; rintro e w' ⟨rfl, rfl⟩) | (go_at_call 117; refine (sl3Fields _ _ _ _ _ t.fFields _ hl hs3 hfc hs4 (F.out.below ((Below.refl _ _).alloc (Nat.le_refl _) _))).mono ?_; rintro e w' ⟨rfl, hbF⟩))
            go_ret
            exact ⟨by rw [Hv.out]; rfl, (Below.refl w.heap.size w).alloc (Nat.le_refl _) _⟩
        by_cases hk6 : t.fKind = 6
        · by_cases hl0 : t.fLong = 0
          · have hfz2 : ¬ (0 : Int) < (t.fFields.length : Int) := by omega
            have Hv := Lib.hid (show typeB l t = (decide (kindZ l t.fBase = 5) || decide (kindZ l t.fBase = 4)) from by
              rw [show (decide (kindZ l t.fBase = 5) || decide (kindZ l t.fBase = 4)) = decide (kindZ l t.fBase = 5 ∨ kindZ l t.fBase = 4) by rw [Bool.eq_iff_iff]; simp]
              by_cases hb : kindZ l t.fBase = 5 ∨ kindZ l t.fBase = 4
              · rw [decide_eq_true hb, typeB_true ⟨hC, .inr (.inr ⟨hk6, hl0, hb, hfz⟩)⟩]
              · rw [decide_eq_false hb, typeB_false]
                rintro ⟨_, ⟨h, _⟩ | ⟨h, _⟩ | ⟨_, _, h, _⟩⟩
                · omega
                · omega
                · exact hb h)
            go_enter Tryz.func91, Tryz.ntmps91
            go_wp2_with (first | (go_at_call 39; refine (sl1Name _ _ (by first | exact hs1 | exact hs2)).mono ?_; rintro e w' ⟨rfl, rfl⟩) | (go_at_call 17; refine (sIn_yes _ _ _ _ (by omega) (by omega)).mono ?_; rintro e w' ⟨rfl, rfl⟩) | (go_at_call 17; refine (sIn_no _ _ _ _ (by omega)).mono ?_; rintro e w' ⟨rfl, rfl⟩) | (go_at_call 116; refine (sl3Kind _ _ l _ _ _ _ hl (by decide) (by decide) (R.out.below ((Below.refl _ _).alloc (Nat.le_refl _) _))).mono ?_; rintro e w' ⟨rfl, rfl⟩) | (go_at_call 117; refine (sl3Fields _ _ _ _ _ t.fFields _ hl hs3 hfc hs4 (F.out.below ((Below.refl _ _).alloc (Nat.le_refl _) _))).mono ?_; rintro e w' ⟨rfl, hbF⟩))
            go_ret
            exact ⟨by rw [Hv.out]; rfl, (Below.refl w.heap.size w).alloc (Nat.le_refl _) _⟩
          · have hfz2 : ¬ (0 : Int) < (t.fFields.length : Int) := by omega
            have hl1 : (t.fLong == 0) = false := beq_eq_false_iff_ne.2 hl0
            have Hv := Lib.hid (show typeB l t = false from typeB_false (by
              rintro ⟨_, ⟨h, _⟩ | ⟨h, _⟩ | ⟨_, h, _⟩⟩
              · omega
              · omega
              · exact hl0 h))
            go_enter Tryz.func91, Tryz.ntmps91
            go_wp2_with (first | (go_at_call 39; refine (sl1Name _ _ (by first | exact hs1 | exact hs2)).mono ?_; rintro e w' ⟨rfl, rfl⟩) | (go_at_call 17; refine (sIn_yes _ _ _ _ (by omega) (by omega)).mono ?_; rintro e w' ⟨rfl, rfl⟩) | (go_at_call 17; refine (sIn_no _ _ _ _ (by omega)).mono ?_; rintro e w' ⟨rfl, rfl⟩) | (go_at_call 116; refine (sl3Kind _ _ l _ _ _ _ hl (by decide) (by decide) (R.out.below ((Below.refl _ _).alloc (Nat.le_refl _) _))).mono ?_; rintro e w' ⟨rfl, rfl⟩) | (go_at_call 117; refine (sl3Fields _ _ _ _ _ t.fFields _ hl hs3 hfc hs4 (F.out.below ((Below.refl _ _).alloc (Nat.le_refl _) _))).mono ?_; rintro e w' ⟨rfl, hbF⟩))
            go_ret
            exact ⟨by rw [Hv.out]; rfl, (Below.refl w.heap.size w).alloc (Nat.le_refl _) _⟩
        · have hfz2 : ¬ (0 : Int) < (t.fFields.length : Int) := by omega
          have hk61 : (t.fKind == 6) = false := beq_eq_false_iff_ne.2 hk6
          have Hv := Lib.hid (show typeB l t = false from typeB_false (by
            rintro ⟨_, ⟨h, _⟩ | ⟨h, _⟩ | ⟨h, _⟩⟩
            · exact hk4 h
            · exact hk5 h
            · exact hk6 h))
          go_enter Tryz.func91, Tryz.ntmps91
          go_wp2_with (first | (go_at_call 39; refine (sl1Name _ _ (by first | exact hs1 | exact hs2)).mono ?_; rintro e w' ⟨rfl, rfl⟩) | (go_at_call 17; refine (sIn_yes _ _ _ _ (by omega) (by omega)).mono ?_; rintro e w' ⟨rfl, rfl⟩) | (go_at_call 17; refine (sIn_no _ _ _ _ (by omega)).mono ?_; rintro e w' ⟨rfl, rfl⟩) | (go_at_call 116; refine (sl3Kind _ _ l _ _ _ _ hl (by decide) (by decide) (R.out.below ((Below.refl _ _).alloc (Nat.le_refl _) _))).mono ?_; rintro e w' ⟨rfl, rfl⟩) | (go_at_call 117; refine (sl3Fields _ _ _ _ _ t.fFields _ hl hs3 hfc hs4 (F.out.below ((Below.refl _ _).alloc (Nat.le_refl _) _))).mono ?_; rintro e w' ⟨rfl, hbF⟩))
          go_ret
          exact ⟨by rw [Hv.out]; rfl, (Below.refl w.heap.size w).alloc (Nat.le_refl _) _⟩
      · have hfz2 : (0 : Int) < (t.fFields.length : Int) := by omega
        have hfz3 : 0 < t.fFields.length := by omega
        have hk51 : (t.fKind != 5) = true := bne_iff_ne.2 hk5
        have Hv := Lib.hid (show typeB l t = false from typeB_false (by
          rintro ⟨_, ⟨_, _, _, h⟩ | ⟨h, _⟩ | ⟨_, _, _, h⟩⟩
          · exact hfz h
          · exact hk5 h
          · exact hfz h))
        go_enter Tryz.func91, Tryz.ntmps91
        go_wp2_with (first | (go_at_call 39; refine (sl1Name _ _ (by first | exact hs1 | exact hs2)).mono ?_; rintro e w' ⟨rfl, rfl⟩) | (go_at_call 17; refine (sIn_yes _ _ _ _ (by omega) (by omega)).mono ?_; rintro e w' ⟨rfl, rfl⟩) | (go_at_call 17; refine (sIn_no _ _ _ _ (by omega)).mono ?_; rintro e w' ⟨rfl, rfl⟩) | (go_at_call 116; refine (sl3Kind _ _ l _ _ _ _ hl (by decide) (by decide) (R.out.below ((Below.refl _ _).alloc (Nat.le_refl _) _))).mono ?_; rintro e w' ⟨rfl, rfl⟩) | (go_at_call 117; refine (sl3Fields _ _ _ _ _ t.fFields _ hl hs3 hfc hs4 (F.out.below ((Below.refl _ _).alloc (Nat.le_refl _) _))).mono ?_; rintro e w' ⟨rfl, hbF⟩))
        go_ret
        exact ⟨by rw [Hv.out]; rfl, (Below.refl w.heap.size w).alloc (Nat.le_refl _) _⟩
    · have hE := hC.resolve_left hN
      have qn := nameB_false (s := t.fName) (fun h => by have := h.1; omega)
      have eo := isEmpty_of hE.1
      have en := isEmpty_of hE.2
      clear hN hE
      by_cases hk5 : t.fKind = 5
      · by_cases hl0 : t.fLong = 0
        · by_cases hb1 : t.fBase = -1
          · have hb2 : (t.fBase == -1) = true := beq_iff_eq.2 hb1
            have Hv := Lib.hid (show typeB l t = fieldsB l.length t.fFields from by
              by_cases hF : fieldsOk l.length t.fFields
              · rw [fieldsB_true hF, typeB_true ⟨hC, .inr (.inl ⟨hk5, hl0, .inl hb1, hF⟩)⟩]
              · rw [fieldsB_false hF, typeB_false]
                rintro ⟨_, ⟨h, _⟩ | ⟨_, _, _, h⟩ | ⟨h, _⟩⟩
                · omega
                · exact hF h
                · omega)
            go_enter Tryz.func91, Tryz.ntmps91
            go_wp2_with (first | (go_at_call 39; refine (sl1Name _ _ (by first | exact hs1 | exact hs2)).mono ?_; rintro e w' ⟨rfl, rfl⟩) | (go_at_call 17; refine (sIn_yes _ _ _ _ (by omega) (by omega)).mono ?_; rintro e w' ⟨rfl, rfl⟩) | (go_at_call 17; refine (sIn_no _ _ _ _ (by omega)).mono ?_; rintro e w' ⟨rfl, rfl⟩) | (go_at_call 116; refine (sl3Kind _ _ l _ _ _ _ hl (by decide) (by decide) (R.out.below ((Below.refl _ _).alloc (Nat.le_refl _) _))).mono ?_; rintro e w' ⟨rfl, rfl⟩) | (go_at_call 117; refine (sl3Fields _ _ _ _ _ t.fFields _ hl hs3 hfc hs4 (F.out.below ((Below.refl _ _).alloc (Nat.le_refl _) _))).mono ?_; rintro e w' ⟨rfl, hbF⟩))
            go_ret
            exact ⟨by rw [Hv.out]; rfl, ((Below.refl w.heap.size w).alloc (Nat.le_refl _) _).trans (hbF.mono (by simp))⟩
          · by_cases hb5 : kindZ l t.fBase = 5
            · skip
              have Hv := Lib.hid (show typeB l t = fieldsB l.length t.fFields from by
                by_cases hF : fieldsOk l.length t.fFields
                · rw [fieldsB_true hF, typeB_true ⟨hC, .inr (.inl ⟨hk5, hl0, .inr hb5, hF⟩)⟩]
                · rw [fieldsB_false hF, typeB_false]
                  rintro ⟨_, ⟨h, _⟩ | ⟨_, _, _, h⟩ | ⟨h, _⟩⟩
                  · omega
                  · exact hF h
                  · omega)
              go_enter Tryz.func91, Tryz.ntmps91
              go_wp2_with (first | (go_at_call 39; refine (sl1Name _ _ (by first | exact hs1 | exact hs2)).mono ?_; rintro e w' ⟨rfl, rfl⟩) | (go_at_call 17; refine (sIn_yes _ _ _ _ (by omega) (by omega)).mono ?_; rintro e w' ⟨rfl, rfl⟩) | (go_at_call 17; refine (sIn_no _ _ _ _ (by omega)).mono ?_; rintro e w' ⟨rfl, rfl⟩) | (go_at_call 116; refine (sl3Kind _ _ l _ _ _ _ hl (by decide) (by decide) (R.out.below ((Below.refl _ _).alloc (Nat.le_refl _) _))).mono ?_; rintro e w' ⟨rfl, rfl⟩) | (go_at_call 117; refine (sl3Fields _ _ _ _ _ t.fFields _ hl hs3 hfc hs4 (F.out.below ((Below.refl _ _).alloc (Nat.le_refl _) _))).mono ?_; rintro e w' ⟨rfl, hbF⟩))
              go_ret
              exact ⟨by rw [Hv.out]; rfl, ((Below.refl w.heap.size w).alloc (Nat.le_refl _) _).trans (hbF.mono (by simp))⟩
            · skip
              have Hv := Lib.hid (show typeB l t = false from typeB_false (by
                rintro ⟨_, ⟨h, _⟩ | ⟨_, h0, hb, h⟩ | ⟨h, _⟩⟩
                · omega
                · exact hb.elim hb1 hb5
                · omega))
              go_enter Tryz.func91, Tryz.ntmps91
              go_wp2_with (first | (go_at_call 39; refine (sl1Name _ _ (by first | exact hs1 | exact hs2)).mono ?_; rintro e w' ⟨rfl, rfl⟩) | (go_at_call 17; refine (sIn_yes _ _ _ _ (by omega) (by omega)).mono ?_; rintro e w' ⟨rfl, rfl⟩) | (go_at_call 17; refine (sIn_no _ _ _ _ (by omega)).mono ?_; rintro e w' ⟨rfl, rfl⟩) | (go_at_call 116; refine (sl3Kind _ _ l _ _ _ _ hl (by decide) (by decide) (R.out.below ((Below.refl _ _).alloc (Nat.le_refl _) _))).mono ?_; rintro e w' ⟨rfl, rfl⟩) | (go_at_call 117; refine (sl3Fields _ _ _ _ _ t.fFields _ hl hs3 hfc hs4 (F.out.below ((Below.refl _ _).alloc (Nat.le_refl _) _))).mono ?_; rintro e w' ⟨rfl, hbF⟩))
              go_ret
              exact ⟨by rw [Hv.out]; rfl, (Below.refl w.heap.size w).alloc (Nat.le_refl _) _⟩
        · have hl1 : (t.fLong == 0) = false := beq_eq_false_iff_ne.2 hl0
          have Hv := Lib.hid (show typeB l t = false from typeB_false (by
            rintro ⟨_, ⟨h, _⟩ | ⟨_, h0, hb, h⟩ | ⟨h, _⟩⟩
            · omega
            · exact hl0 h0
            · omega))
          go_enter Tryz.func91, Tryz.ntmps91
          go_wp2_with (first | (go_at_call 39; refine (sl1Name _ _ (by first | exact hs1 | exact hs2)).mono ?_; rintro e w' ⟨rfl, rfl⟩) | (go_at_call 17; refine (sIn_yes _ _ _ _ (by omega) (by omega)).mono ?_; rintro e w' ⟨rfl, rfl⟩) | (go_at_call 17; refine (sIn_no _ _ _ _ (by omega)).mono ?_; rintro e w' ⟨rfl, rfl⟩) | (go_at_call 116; refine (sl3Kind _ _ l _ _ _ _ hl (by decide) (by decide) (R.out.below ((Below.refl _ _).alloc (Nat.le_refl _) _))).mono ?_; rintro e w' ⟨rfl, rfl⟩) | (go_at_call 117; refine (sl3Fields _ _ _ _ _ t.fFields _ hl hs3 hfc hs4 (F.out.below ((Below.refl _ _).alloc (Nat.le_refl _) _))).mono ?_; rintro e w' ⟨rfl, hbF⟩))
          go_ret
          exact ⟨by rw [Hv.out]; rfl, (Below.refl w.heap.size w).alloc (Nat.le_refl _) _⟩
      by_cases hfz : t.fFields.length = 0
      · by_cases hk4 : t.fKind = 4
        · by_cases hL : 1 ≤ t.fLong ∧ t.fLong ≤ 1000
          · by_cases hB : 0 ≤ t.fBase ∧ t.fBase ≤ (l.length : Int) - 1
            · have hfz2 : ¬ (0 : Int) < (t.fFields.length : Int) := by omega
              have Hv := Lib.hid (show typeB l t = true from typeB_true ⟨hC, .inl ⟨hk4, hL, ⟨hB.1, by omega⟩, hfz⟩⟩)
              go_enter Tryz.func91, Tryz.ntmps91
              go_wp2_with (first | (go_at_call 39; refine (sl1Name _ _ (by first | exact hs1 | exact hs2)).mono ?_; rintro e w' ⟨rfl, rfl⟩) | (go_at_call 17; refine (sIn_yes _ _ _ _ (by omega) (by omega)).mono ?_; rintro e w' ⟨rfl, rfl⟩) | (go_at_call 17; refine (sIn_no _ _ _ _ (by omega)).mono ?_; rintro e w' ⟨rfl, rfl⟩) | (go_at_call 116; refine (sl3Kind _ _ l _ _ _ _ hl (by decide) (by decide) (R.out.below ((Below.refl _ _).alloc (Nat.le_refl _) _))).mono ?_; rintro e w' ⟨rfl, rfl⟩) | (go_at_call 117; refine (sl3Fields _ _ _ _ _ t.fFields _ hl hs3 hfc hs4 (F.out.below ((Below.refl _ _).alloc (Nat.le_refl _) _))).mono ?_; rintro e w' ⟨rfl, hbF⟩))
              go_ret
              exact ⟨by rw [Hv.out]; rfl, (Below.refl w.heap.size w).alloc (Nat.le_refl _) _⟩
            · have hfz2 : ¬ (0 : Int) < (t.fFields.length : Int) := by omega
              have Hv := Lib.hid (show typeB l t = false from typeB_false (by
                rintro ⟨_, ⟨_, _, h, _⟩ | ⟨h, _⟩ | ⟨h, _⟩⟩
                · exact hB ⟨h.1, by omega⟩
                · omega
                · omega))
              go_enter Tryz.func91, Tryz.ntmps91
              go_wp2_with (first | (go_at_call 39; refine (sl1Name _ _ (by first | exact hs1 | exact hs2)).mono ?_; rintro e w' ⟨rfl, rfl⟩) | (go_at_call 17; refine (sIn_yes _ _ _ _ (by omega) (by omega)).mono ?_; rintro e w' ⟨rfl, rfl⟩) | (go_at_call 17; refine (sIn_no _ _ _ _ (by omega)).mono ?_; rintro e w' ⟨rfl, rfl⟩) | (go_at_call 116; refine (sl3Kind _ _ l _ _ _ _ hl (by decide) (by decide) (R.out.below ((Below.refl _ _).alloc (Nat.le_refl _) _))).mono ?_; rintro e w' ⟨rfl, rfl⟩) | (go_at_call 117; refine (sl3Fields _ _ _ _ _ t.fFields _ hl hs3 hfc hs4 (F.out.below ((Below.refl _ _).alloc (Nat.le_refl _) _))).mono ?_; rintro e w' ⟨rfl, hbF⟩))
              go_ret
              exact ⟨by rw [Hv.out]; rfl, (Below.refl w.heap.size w).alloc (Nat.le_refl _) _⟩
          · have hfz2 : ¬ (0 : Int) < (t.fFields.length : Int) := by omega
            have Hv := Lib.hid (show typeB l t = false from typeB_false (by
              rintro ⟨_, ⟨_, h, _⟩ | ⟨h, _⟩ | ⟨h, _⟩⟩
              · exact hL h
              · omega
              · omega))
            go_enter Tryz.func91, Tryz.ntmps91
            go_wp2_with (first | (go_at_call 39; refine (sl1Name _ _ (by first | exact hs1 | exact hs2)).mono ?_; rintro e w' ⟨rfl, rfl⟩) | (go_at_call 17; refine (sIn_yes _ _ _ _ (by omega) (by omega)).mono ?_; rintro e w' ⟨rfl, rfl⟩) | (go_at_call 17; refine (sIn_no _ _ _ _ (by omega)).mono ?_; rintro e w' ⟨rfl, rfl⟩) | (go_at_call 116; refine (sl3Kind _ _ l _ _ _ _ hl (by decide) (by decide) (R.out.below ((Below.refl _ _).alloc (Nat.le_refl _) _))).mono ?_; rintro e w' ⟨rfl, rfl⟩) | (go_at_call 117; refine (sl3Fields _ _ _ _ _ t.fFields _ hl hs3 hfc hs4 (F.out.below ((Below.refl _ _).alloc (Nat.le_refl _) _))).mono ?_; rintro e w' ⟨rfl, hbF⟩))
            go_ret
            exact ⟨by rw [Hv.out]; rfl, (Below.refl w.heap.size w).alloc (Nat.le_refl _) _⟩
        by_cases hk6 : t.fKind = 6
        · by_cases hl0 : t.fLong = 0
          · have hfz2 : ¬ (0 : Int) < (t.fFields.length : Int) := by omega
            have Hv := Lib.hid (show typeB l t = (decide (kindZ l t.fBase = 5) || decide (kindZ l t.fBase = 4)) from by
              rw [show (decide (kindZ l t.fBase = 5) || decide (kindZ l t.fBase = 4)) = decide (kindZ l t.fBase = 5 ∨ kindZ l t.fBase = 4) by rw [Bool.eq_iff_iff]; simp]
              by_cases hb : kindZ l t.fBase = 5 ∨ kindZ l t.fBase = 4
              · rw [decide_eq_true hb, typeB_true ⟨hC, .inr (.inr ⟨hk6, hl0, hb, hfz⟩)⟩]
              · rw [decide_eq_false hb, typeB_false]
                rintro ⟨_, ⟨h, _⟩ | ⟨h, _⟩ | ⟨_, _, h, _⟩⟩
                · omega
                · omega
                · exact hb h)
            go_enter Tryz.func91, Tryz.ntmps91
            go_wp2_with (first | (go_at_call 39; refine (sl1Name _ _ (by first | exact hs1 | exact hs2)).mono ?_; rintro e w' ⟨rfl, rfl⟩) | (go_at_call 17; refine (sIn_yes _ _ _ _ (by omega) (by omega)).mono ?_; rintro e w' ⟨rfl, rfl⟩) | (go_at_call 17; refine (sIn_no _ _ _ _ (by omega)).mono ?_; rintro e w' ⟨rfl, rfl⟩) | (go_at_call 116; refine (sl3Kind _ _ l _ _ _ _ hl (by decide) (by decide) (R.out.below ((Below.refl _ _).alloc (Nat.le_refl _) _))).mono ?_; rintro e w' ⟨rfl, rfl⟩) | (go_at_call 117; refine (sl3Fields _ _ _ _ _ t.fFields _ hl hs3 hfc hs4 (F.out.below ((Below.refl _ _).alloc (Nat.le_refl _) _))).mono ?_; rintro e w' ⟨rfl, hbF⟩))
            go_ret
            exact ⟨by rw [Hv.out]; rfl, (Below.refl w.heap.size w).alloc (Nat.le_refl _) _⟩
          · have hfz2 : ¬ (0 : Int) < (t.fFields.length : Int) := by omega
            have hl1 : (t.fLong == 0) = false := beq_eq_false_iff_ne.2 hl0
            have Hv := Lib.hid (show typeB l t = false from typeB_false (by
              rintro ⟨_, ⟨h, _⟩ | ⟨h, _⟩ | ⟨_, h, _⟩⟩
              · omega
              · omega
              · exact hl0 h))
            go_enter Tryz.func91, Tryz.ntmps91
            go_wp2_with (first | (go_at_call 39; refine (sl1Name _ _ (by first | exact hs1 | exact hs2)).mono ?_; rintro e w' ⟨rfl, rfl⟩) | (go_at_call 17; refine (sIn_yes _ _ _ _ (by omega) (by omega)).mono ?_; rintro e w' ⟨rfl, rfl⟩) | (go_at_call 17; refine (sIn_no _ _ _ _ (by omega)).mono ?_; rintro e w' ⟨rfl, rfl⟩) | (go_at_call 116; refine (sl3Kind _ _ l _ _ _ _ hl (by decide) (by decide) (R.out.below ((Below.refl _ _).alloc (Nat.le_refl _) _))).mono ?_; rintro e w' ⟨rfl, rfl⟩) | (go_at_call 117; refine (sl3Fields _ _ _ _ _ t.fFields _ hl hs3 hfc hs4 (F.out.below ((Below.refl _ _).alloc (Nat.le_refl _) _))).mono ?_; rintro e w' ⟨rfl, hbF⟩))
            go_ret
            exact ⟨by rw [Hv.out]; rfl, (Below.refl w.heap.size w).alloc (Nat.le_refl _) _⟩
        · have hfz2 : ¬ (0 : Int) < (t.fFields.length : Int) := by omega
          have hk61 : (t.fKind == 6) = false := beq_eq_false_iff_ne.2 hk6
          have Hv := Lib.hid (show typeB l t = false from typeB_false (by
            rintro ⟨_, ⟨h, _⟩ | ⟨h, _⟩ | ⟨h, _⟩⟩
            · exact hk4 h
            · exact hk5 h
            · exact hk6 h))
          go_enter Tryz.func91, Tryz.ntmps91
          go_wp2_with (first | (go_at_call 39; refine (sl1Name _ _ (by first | exact hs1 | exact hs2)).mono ?_; rintro e w' ⟨rfl, rfl⟩) | (go_at_call 17; refine (sIn_yes _ _ _ _ (by omega) (by omega)).mono ?_; rintro e w' ⟨rfl, rfl⟩) | (go_at_call 17; refine (sIn_no _ _ _ _ (by omega)).mono ?_; rintro e w' ⟨rfl, rfl⟩) | (go_at_call 116; refine (sl3Kind _ _ l _ _ _ _ hl (by decide) (by decide) (R.out.below ((Below.refl _ _).alloc (Nat.le_refl _) _))).mono ?_; rintro e w' ⟨rfl, rfl⟩) | (go_at_call 117; refine (sl3Fields _ _ _ _ _ t.fFields _ hl hs3 hfc hs4 (F.out.below ((Below.refl _ _).alloc (Nat.le_refl _) _))).mono ?_; rintro e w' ⟨rfl, hbF⟩))
          go_ret
          exact ⟨by rw [Hv.out]; rfl, (Below.refl w.heap.size w).alloc (Nat.le_refl _) _⟩
      · have hfz2 : (0 : Int) < (t.fFields.length : Int) := by omega
        have hfz3 : 0 < t.fFields.length := by omega
        have hk51 : (t.fKind != 5) = true := bne_iff_ne.2 hk5
        have Hv := Lib.hid (show typeB l t = false from typeB_false (by
          rintro ⟨_, ⟨_, _, _, h⟩ | ⟨h, _⟩ | ⟨_, _, _, h⟩⟩
          · exact hfz h
          · exact hk5 h
          · exact hfz h))
        go_enter Tryz.func91, Tryz.ntmps91
        go_wp2_with (first | (go_at_call 39; refine (sl1Name _ _ (by first | exact hs1 | exact hs2)).mono ?_; rintro e w' ⟨rfl, rfl⟩) | (go_at_call 17; refine (sIn_yes _ _ _ _ (by omega) (by omega)).mono ?_; rintro e w' ⟨rfl, rfl⟩) | (go_at_call 17; refine (sIn_no _ _ _ _ (by omega)).mono ?_; rintro e w' ⟨rfl, rfl⟩) | (go_at_call 116; refine (sl3Kind _ _ l _ _ _ _ hl (by decide) (by decide) (R.out.below ((Below.refl _ _).alloc (Nat.le_refl _) _))).mono ?_; rintro e w' ⟨rfl, rfl⟩) | (go_at_call 117; refine (sl3Fields _ _ _ _ _ t.fFields _ hl hs3 hfc hs4 (F.out.below ((Below.refl _ _).alloc (Nat.le_refl _) _))).mono ?_; rintro e w' ⟨rfl, hbF⟩))
        go_ret
        exact ⟨by rw [Hv.out]; rfl, (Below.refl w.heap.size w).alloc (Nat.le_refl _) _⟩
  · by_cases hn : nameP t.fName
    · have qn := nameB_true hn
      have qo := nameB_false (s := t.fOwner) (fun h => hC (.inl ⟨h, hn⟩))
      have en := isEmpty_not (s := t.fName) (by have := hn.1; omega)
      clear hn
      have Hv := Lib.hid (typeB_false (l := l) (t := t) (fun h => hC h.1))
      clear hC
      go_enter Tryz.func91, Tryz.ntmps91
      go_wp2_with (first | (go_at_call 39; refine (sl1Name _ _ (by first | exact hs1 | exact hs2)).mono ?_; rintro e w' ⟨rfl, rfl⟩) | (go_at_call 17; refine (sIn_yes _ _ _ _ (by omega) (by omega)).mono ?_; rintro e w' ⟨rfl, rfl⟩) | (go_at_call 17; refine (sIn_no _ _ _ _ (by omega)).mono ?_; rintro e w' ⟨rfl, rfl⟩) | (go_at_call 116; refine (sl3Kind _ _ l _ _ _ _ hl (by decide) (by decide) (R.out.below ((Below.refl _ _).alloc (Nat.le_refl _) _))).mono ?_; rintro e w' ⟨rfl, rfl⟩) | (go_at_call 117; refine (sl3Fields _ _ _ _ _ t.fFields _ hl hs3 hfc hs4 (F.out.below ((Below.refl _ _).alloc (Nat.le_refl _) _))).mono ?_; rintro e w' ⟨rfl, hbF⟩))
      go_ret
      exact ⟨by rw [Hv.out]; rfl, (Below.refl w.heap.size w).alloc (Nat.le_refl _) _⟩
    have qn := nameB_false hn
    by_cases hz : t.fName.size = 0
    · have en := isEmpty_of hz
      have eo := isEmpty_not (s := t.fOwner) (fun h => hC (.inr ⟨h, hz⟩))
      have Hv := Lib.hid (typeB_false (l := l) (t := t) (fun h => hC h.1))
      clear hC hn
      go_enter Tryz.func91, Tryz.ntmps91
      go_wp2_with (first | (go_at_call 39; refine (sl1Name _ _ (by first | exact hs1 | exact hs2)).mono ?_; rintro e w' ⟨rfl, rfl⟩) | (go_at_call 17; refine (sIn_yes _ _ _ _ (by omega) (by omega)).mono ?_; rintro e w' ⟨rfl, rfl⟩) | (go_at_call 17; refine (sIn_no _ _ _ _ (by omega)).mono ?_; rintro e w' ⟨rfl, rfl⟩) | (go_at_call 116; refine (sl3Kind _ _ l _ _ _ _ hl (by decide) (by decide) (R.out.below ((Below.refl _ _).alloc (Nat.le_refl _) _))).mono ?_; rintro e w' ⟨rfl, rfl⟩) | (go_at_call 117; refine (sl3Fields _ _ _ _ _ t.fFields _ hl hs3 hfc hs4 (F.out.below ((Below.refl _ _).alloc (Nat.le_refl _) _))).mono ?_; rintro e w' ⟨rfl, hbF⟩))
      go_ret
      exact ⟨by rw [Hv.out]; rfl, (Below.refl w.heap.size w).alloc (Nat.le_refl _) _⟩
    · have en := isEmpty_not hz
      have Hv := Lib.hid (typeB_false (l := l) (t := t) (fun h => hC h.1))
      clear hC hn
      go_enter Tryz.func91, Tryz.ntmps91
      go_wp2_with (first | (go_at_call 39; refine (sl1Name _ _ (by first | exact hs1 | exact hs2)).mono ?_; rintro e w' ⟨rfl, rfl⟩) | (go_at_call 17; refine (sIn_yes _ _ _ _ (by omega) (by omega)).mono ?_; rintro e w' ⟨rfl, rfl⟩) | (go_at_call 17; refine (sIn_no _ _ _ _ (by omega)).mono ?_; rintro e w' ⟨rfl, rfl⟩) | (go_at_call 116; refine (sl3Kind _ _ l _ _ _ _ hl (by decide) (by decide) (R.out.below ((Below.refl _ _).alloc (Nat.le_refl _) _))).mono ?_; rintro e w' ⟨rfl, rfl⟩) | (go_at_call 117; refine (sl3Fields _ _ _ _ _ t.fFields _ hl hs3 hfc hs4 (F.out.below ((Below.refl _ _).alloc (Nat.le_refl _) _))).mono ?_; rintro e w' ⟨rfl, hbF⟩))
      go_ret
      exact ⟨by rw [Hv.out]; rfl, (Below.refl w.heap.size w).alloc (Nat.le_refl _) _⟩

end Go.Proofs.YtllddjmcemcdhaaGreat
