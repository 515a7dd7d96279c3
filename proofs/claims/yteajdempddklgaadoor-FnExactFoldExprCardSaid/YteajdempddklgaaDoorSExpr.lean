
/-
  What is proved: contracts of the model's l5Two, l5Step, l5Good and GoodExpr. No condition beside what each theorem states.
-/
import Derived.Test.YteajdempddklgaaDoorActs
namespace Go.Proofs.YteajdempddklgaaDoor
open Go.ChangeShapes Go.WideShapes Go.ChangeAt Go.RowKit
set_option maxRecDepth 100000

theorem sIn5 (n a b : Int) (w : World) : Calls Tryd.prog 74 #[.int .i64 n, .int .i64 a, .int .i64 b] w fun e w' => e = .returned (.bool (decide (a ≤ n) && decide (n ≤ b))) ∧ w = w' := by
  by_cases h1 : a ≤ n
  · by_cases h2 : n ≤ b
    · refine (sIn_yes n a b w h1 h2).mono ?_
      rintro e w' ⟨rfl, rfl⟩
      simp [h1, h2]
    · refine (sIn_no n a b w (by omega)).mono ?_
      rintro e w' ⟨rfl, rfl⟩
      simp [h2]
  · refine (sIn_no n a b w (by omega)).mono ?_
    rintro e w' ⟨rfl, rfl⟩
    simp [h1]
theorem sInAs {n a b : Int} {w : World} {q : Bool} (h : (decide (a ≤ n) && decide (n ≤ b)) = q) : Calls Tryd.prog 74 #[.int .i64 n, .int .i64 a, .int .i64 b] w fun e w' => e = .returned (.bool q) ∧ w = w' := h ▸ sIn5 n a b w
theorem sNameAs {s : ByteArray} {b : Bool} {w : World} (h : nameB s = b) (hs : s.size ≤ maxLen) : Calls Tryd.prog 107 #[.string s] w fun e w' => e = .returned (.bool b) ∧ w = w' := h ▸ sl1Name s w hs

theorem sTwo (k : Int) (w : World) : Calls Tryd.prog 73 #[.int .i64 k] w fun e w' => e = .returned (.bool (decide (3 ≤ k) && decide (k ≤ 7))) ∧ w = w' := by
  go_enter Tryd.func73, Tryd.ntmps73
  go_wp2_with (go_at_call 74; refine (sIn5 _ _ _ _).mono ?_; rintro e w' ⟨rfl, rfl⟩)
  go_ret
  exact ⟨rfl, rfl⟩
theorem sTwoAs {k : Int} {w : World} {q : Bool} (h : (decide (3 ≤ k) && decide (k ≤ 7)) = q) : Calls Tryd.prog 73 #[.int .i64 k] w fun e w' => e = .returned (.bool q) ∧ w = w' := h ▸ sTwo k w

open Classical in
noncomputable def okSB (s : StepD) : Bool := decide (∃ a, IsAct s a)
theorem okSB_true {s : StepD} {a : ActD} (h : IsAct s a) : okSB s = true := by unfold okSB; simpa using ⟨a, h⟩
theorem okSB_false {s : StepD} (h : ∀ a, ¬ IsAct s a) : okSB s = false := by unfold okSB; simpa using h
theorem empty_is {s : ByteArray} (h : s = ByteArray.empty) : s.toList.isEmpty = true := by rw [h, ByteArray.toList_eq]; rfl

set_option maxHeartbeats 4000000 in
theorem sStep5 (s : StepD) (w : World) (hn : s.fName.size ≤ maxLen) (hm : s.fMod.size ≤ maxLen) : Calls Tryd.prog 72 #[.agg #[.int .i64 s.fKind, .int .i64 s.fValue, .string s.fMod, .string s.fName]] w fun e w' => e = .returned (.bool (okSB s)) ∧ Below w.heap.size w w' := by
  obtain ⟨kd, vl, md, nm⟩ := s
  dsimp only at hn hm ⊢
  have He := Lib.hid eqStep
  have B0 := Lib.hid ((Below.refl w.heap.size w).alloc (Nat.le_refl _) (.cells #[.int .i64 kd, .int .i64 vl, .string md, .string nm] 72))
  have Kn := Lib.hid (fun h : (∀ a, ¬ IsAct ⟨kd, vl, md, nm⟩ a) => okSB_false h)
  have Ky := Lib.hid (fun a (h : IsAct ⟨kd, vl, md, nm⟩ a) => okSB_true h)
  go_enter Tryd.func72, Tryd.ntmps72
  by_cases k1 : kd = 1
  · subst k1
    have N1 : ∀ a, IsAct ⟨1, vl, md, nm⟩ a → (0 ≤ vl ∧ vl ≤ 1000000000) ∧ md = ByteArray.empty ∧ nm = ByteArray.empty := by
      rintro a (⟨_, h1, h2, h3, h4, _⟩ | ⟨h, _⟩ | ⟨h, _⟩ | ⟨j, _, h, _⟩)
      · exact ⟨⟨h3, h4⟩, h1, h2⟩
      · cases h
      · cases h
      · simp at h; omega
    have N1 := Lib.hid N1
    by_cases g1 : 0 ≤ vl ∧ vl ≤ 1000000000
    · have hin : (decide (0 ≤ vl) && decide (vl ≤ 1000000000)) = true := by simpa using g1
      have G1 := Lib.hid g1
      clear g1
      by_cases g2 : md = ByteArray.empty
      · have e2 := empty_is g2
        have G2 := Lib.hid g2
        clear g2
        by_cases g3 : nm = ByteArray.empty
        · have e3 := empty_is g3
          have G3 := Lib.hid g3
          clear g3
          have Z := Lib.hid (show okSB _ = true from Ky.out (.num vl) (.inl ⟨rfl, G2.out, G3.out, G1.out.1, G1.out.2, rfl⟩))
          go_wp2_with (go_at_call 74; refine (sInAs (q := true) hin).mono ?_; rintro e w' ⟨rfl, rfl⟩)
          go_ret
          exact ⟨by rw [Z.out]; rfl, B0.out⟩
        · have e3 := empty_not g3
          have G3 := Lib.hid g3
          clear g3
          have Z := Lib.hid (show okSB _ = false from Kn.out (fun a h => G3.out (N1.out a h).2.2))
          go_wp2_with (go_at_call 74; refine (sInAs (q := true) hin).mono ?_; rintro e w' ⟨rfl, rfl⟩)
          go_ret
          exact ⟨by rw [Z.out]; rfl, B0.out⟩
      · have e2 := empty_not g2
        have G2 := Lib.hid g2
        clear g2
        have Z := Lib.hid (show okSB _ = false from Kn.out (fun a h => G2.out (N1.out a h).2.1))
        go_wp2_with (go_at_call 74; refine (sInAs (q := true) hin).mono ?_; rintro e w' ⟨rfl, rfl⟩)
        go_ret
        exact ⟨by rw [Z.out]; rfl, B0.out⟩
    · have hin : (decide (0 ≤ vl) && decide (vl ≤ 1000000000)) = false := by rw [Bool.eq_false_iff]; intro h; simp at h; exact g1 h
      have G1 := Lib.hid g1
      clear g1
      have Z := Lib.hid (show okSB _ = false from Kn.out (fun a h => G1.out (N1.out a h).1))
      go_wp2_with (go_at_call 74; refine (sInAs (q := false) hin).mono ?_; rintro e w' ⟨rfl, rfl⟩)
      go_ret
      exact ⟨by rw [Z.out]; rfl, B0.out⟩
  by_cases k2 : kd = 2
  · subst k2
    have N2 : ∀ a, IsAct ⟨2, vl, md, nm⟩ a → vl = 0 ∧ nameP nm ∧ (md = ByteArray.empty ∨ nameP md) := by
      rintro a (⟨h, _⟩ | ⟨_, h1, h2, h3, _⟩ | ⟨h, _⟩ | ⟨j, _, h, _⟩)
      · cases h
      · exact ⟨h1, h2, h3⟩
      · cases h
      · simp at h; omega
    have N2 := Lib.hid N2
    clear k1
    by_cases g1 : vl = 0
    · have e1 : (vl == 0) = true := beq_iff_eq.2 g1
      have G1 := Lib.hid g1
      clear g1
      by_cases g2 : nameP nm
      · have d1 := nameB_true g2
        by_cases g3 : md = ByteArray.empty
        · have e3 := empty_is g3
          have G3 := Lib.hid g3
          clear g3
          have Z := Lib.hid (show okSB _ = true from Ky.out (.name md nm) (.inr (.inl ⟨rfl, G1.out, g2, .inl G3.out, rfl⟩)))
          go_wp2_with (go_at_call 107; refine (sNameAs d1 (by assumption)).mono ?_; rintro e w' ⟨rfl, rfl⟩)
          go_ret
          exact ⟨by rw [Z.out]; rfl, B0.out⟩
        · have e3 := empty_not g3
          have G3 := Lib.hid g3
          clear g3
          by_cases g4 : nameP md
          · have d2 := nameB_true g4
            have Z := Lib.hid (show okSB _ = true from Ky.out (.name md nm) (.inr (.inl ⟨rfl, G1.out, g2, .inr g4, rfl⟩)))
            go_wp2_with (go_at_call 107; refine (sNameAs (by first | exact d1 | exact d2) (by assumption)).mono ?_; rintro e w' ⟨rfl, rfl⟩)
            go_ret
            exact ⟨by rw [Z.out]; rfl, B0.out⟩
          · have d2 := nameB_false g4
            have Z := Lib.hid (show okSB _ = false from Kn.out (fun a h => (N2.out a h).2.2.elim G3.out g4))
            go_wp2_with (go_at_call 107; refine (sNameAs (by first | exact d1 | exact d2) (by assumption)).mono ?_; rintro e w' ⟨rfl, rfl⟩)
            go_ret
            exact ⟨by rw [Z.out]; rfl, B0.out⟩
      · have d1 := nameB_false g2
        have Z := Lib.hid (show okSB _ = false from Kn.out (fun a h => g2 (N2.out a h).2.1))
        go_wp2_with (go_at_call 107; refine (sNameAs d1 (by assumption)).mono ?_; rintro e w' ⟨rfl, rfl⟩)
        go_ret
        exact ⟨by rw [Z.out]; rfl, B0.out⟩
    · have e1 : (vl == 0) = false := beq_eq_false_iff_ne.2 g1
      have G1 := Lib.hid g1
      clear g1
      have Z := Lib.hid (show okSB _ = false from Kn.out (fun a h => G1.out (N2.out a h).1))
      go_wp2_with fail
      go_ret
      exact ⟨by rw [Z.out]; rfl, B0.out⟩
  have q1 : (kd == 1) = false := beq_eq_false_iff_ne.2 k1
  have q2 : (kd == 2) = false := beq_eq_false_iff_ne.2 k2
  have N3 : ∀ a, IsAct ⟨kd, vl, md, nm⟩ a → (3 ≤ kd ∧ kd ≤ 8) ∧ vl = 0 ∧ md = ByteArray.empty ∧ nm = ByteArray.empty := by
    rintro a (⟨h, _⟩ | ⟨h, _⟩ | ⟨h, hp, _⟩ | ⟨j, _, h, hp, _⟩)
    · exact absurd h k1
    · exact absurd h k2
    · exact ⟨by have h : kd = 8 := h; omega, hp⟩
    · exact ⟨by have h : kd = 3 + (j : Int) := h; omega, hp⟩
  have N3 := Lib.hid N3
  have Y3 : (3 ≤ kd ∧ kd ≤ 8) → plainP ⟨kd, vl, md, nm⟩ → ∃ a, IsAct ⟨kd, vl, md, nm⟩ a := by
    intro h hp
    by_cases h8 : kd = 8
    · exact ⟨.minus, .inr (.inr (.inl ⟨h8, hp, rfl⟩))⟩
    · exact ⟨.pair (kd - 3).toNat, .inr (.inr (.inr ⟨(kd - 3).toNat, by omega, by show kd = _; omega, hp, rfl⟩))⟩
  have Y3 := Lib.hid Y3
  by_cases g1 : 3 ≤ kd ∧ kd ≤ 8
  · have hin : (decide (3 ≤ kd) && decide (kd ≤ 8)) = true := by simpa using g1
    have G1 := Lib.hid g1
    clear g1 k1 k2
    have r4 := fun W => He.out kd vl kd 0 md nm ⟨#[]⟩ ⟨#[]⟩ W
    by_cases g2 : vl = 0 ∧ md = ByteArray.empty ∧ nm = ByteArray.empty
    · have q4 : ((kd == kd) && ((vl == 0) && ((md.toList == ByteArray.empty.toList) && (nm.toList == ByteArray.empty.toList)))) = true := by rw [g2.1, g2.2.1, g2.2.2]; simp
      replace r4 := fun W => (r4 W).trans (congrArg (fun b => Result.ok b W) q4)
      have G2 := Lib.hid g2
      clear g2 q4
      have Z := Lib.hid (show okSB _ = true from (Y3.out G1.out G2.out).elim (fun a h => Ky.out a h))
      go_wp2_with (go_at_call 74; refine (sInAs (q := true) hin).mono ?_; rintro e w' ⟨rfl, rfl⟩)
      go_ret
      exact ⟨by rw [Z.out]; rfl, B0.out⟩
    · have q4 : ((kd == kd) && ((vl == 0) && ((md.toList == ByteArray.empty.toList) && (nm.toList == ByteArray.empty.toList)))) = false := four_false (by
        rintro ⟨_, g4, g5, g6⟩
        exact g2 ⟨beq_iff_eq.1 g4, (empty_beq _).1 g5, (empty_beq _).1 g6⟩)
      replace r4 := fun W => (r4 W).trans (congrArg (fun b => Result.ok b W) q4)
      have G2 := Lib.hid g2
      clear g2 q4
      have Z := Lib.hid (show okSB _ = false from Kn.out (fun a h => G2.out (N3.out a h).2))
      go_wp2_with (go_at_call 74; refine (sInAs (q := true) hin).mono ?_; rintro e w' ⟨rfl, rfl⟩)
      go_ret
      exact ⟨by rw [Z.out]; rfl, B0.out⟩
  · have hin : (decide (3 ≤ kd) && decide (kd ≤ 8)) = false := by rw [Bool.eq_false_iff]; intro h; simp at h; exact g1 h
    have G1 := Lib.hid g1
    clear g1 k1 k2
    have Z := Lib.hid (show okSB _ = false from Kn.out (fun a h => G1.out (N3.out a h).1))
    go_wp2_with (go_at_call 74; refine (sInAs (q := false) hin).mono ?_; rintro e w' ⟨rfl, rfl⟩)
    go_ret
    exact ⟨by rw [Z.out]; rfl, B0.out⟩

theorem sStepAs {s : StepD} {w : World} {q : Bool} (h : okSB s = q) (hn : s.fName.size ≤ maxLen) (hm : s.fMod.size ≤ maxLen) : Calls Tryd.prog 72 #[.agg #[.int .i64 s.fKind, .int .i64 s.fValue, .string s.fMod, .string s.fName]] w fun e w' => e = .returned (.bool q) ∧ Below w.heap.size w w' := h ▸ sStep5 s w hn hm

set_option maxHeartbeats 16000000 in
theorem sl5Good (a : Option Addr) (c : Nat) (l : List StepD) (w : World) (hl : l.length ≤ 1048576) (hcm : ∀ t ∈ l, t.fName.size ≤ maxLen ∧ t.fMod.size ≤ maxLen) (hr : Rows stepS Any w a l) : Calls Tryd.prog 40 #[.slice a l.length c] w fun e w' => e = .returned (.bool (goodEB l)) ∧ Below w.heap.size w w' := by
  have Hr := Lib.hid hr
  have Hcm := Lib.hid hcm
  clear hr hcm
  go_enter Tryd.func40, Tryd.ntmps40
  go_wp2_with fail
  go_loopw [3, 8] (fun m i wr => ∃ (k : Nat) (n : Int) (xs : List ActD), i = .int .i64 k ∧ m = .int .i64 n ∧ k ≤ l.length ∧ ActsTo (l.take k) n xs ∧ Below w.heap.size w wr) (fun _ i _ => l.length - (intOf i).toNat)
  case atStart => exact ⟨0, 0, [], rfl, rfl, by omega, .nil, Below.refl _ _⟩
  case round =>
    obtain ⟨k, n, xs, rfl, rfl, hk, hto, hbel⟩ := hrel
    have To := Lib.hid hto
    have hxl := hto.len.1
    have hn0 := hto.len.2.1
    have hn1 := hto.len.2.2
    clear hto
    by_cases hlt : k < l.length
    · obtain ⟨b, o, cs, rfl, _, hb1, hc1, hat⟩ := Hr.out k hlt
      obtain rfl : cs = [.int .i64 l[k].fKind, .int .i64 l[k].fValue, .string l[k].fMod, .string l[k].fName] := hat
      have e0 := (hbel.cell (p := ⟨b, o + k * 4 + 0, none⟩) hb1).trans (hc1 0 (by decide))
      have e1 := (hbel.cell (p := ⟨b, o + k * 4 + 1, none⟩) hb1).trans (hc1 1 (by decide))
      have e2 := (hbel.cell (p := ⟨b, o + k * 4 + 2, none⟩) hb1).trans (hc1 2 (by decide))
      have e3 := (hbel.cell (p := ⟨b, o + k * 4 + 3, none⟩) hb1).trans (hc1 3 (by decide))
      simp at e0 e1 e2 e3
      obtain ⟨hsn, hsm⟩ := Hcm.out l[k] (List.getElem_mem hlt)
      have Hstop := Lib.hid (fun hno => goodEB_false (fun ys h => ActsTo.stop hlt To.out hno ⟨_, ys, h.2⟩))
      have Hstep := Lib.hid (fun a (h2 : IsAct l[k] a) h3 => (take_snoc hlt).symm ▸ ActsTo.snoc To.out h2 h3)
      have Hbel := Lib.hid hbel
      rw [List.length_take] at hxl hn1
      clear hbel hc1
      generalize l[k] = t at *
      obtain ⟨kd, vl, md, nm⟩ := t
      dsimp only at e0 e1 e2 e3 hsn hsm
      have hwb : ∀ W, Hid (Below wr.heap.size wr W → Below w.heap.size w W) := fun W => Lib.hid (fun h => Hbel.out.trans (h.mono Hbel.out.size))
      have X0 := Lib.hid (Box.new wr 72 #[.int .i64 kd, .int .i64 vl, .string md, .string nm])
      have B0 := Lib.hid (Hbel.out.alloc Hbel.out.size (.cells #[.int .i64 kd, .int .i64 vl, .string md, .string nm] 72))
      clear hwb
      by_cases hex : ∃ a, IsAct ⟨kd, vl, md, nm⟩ a
      · obtain ⟨x, hx⟩ := hex
        have hok := okSB_true hx
        have Hst := Lib.hid (fun h3 => Hstep.out x hx h3)
        have Hsp := Lib.hid (fun (h3 : ¬ x.takes ≤ n) => Hstop.out (fun y hy => by rw [hy.unique hx]; exact h3))
        clear Hstep Hstop
        cases x
        case num x =>
          have hkd : kd = 1 := by
            rcases hx with ⟨h, _, _, _, _, hh⟩ | ⟨h, _, _, _, hh⟩ | ⟨h, _, hh⟩ | ⟨i, hi, h, _, hh⟩
            · exact h
            · cases hh
            · cases hh
            · cases hh
          have hin : (decide (3 ≤ kd) && decide (kd ≤ 7)) = false := by rw [Bool.eq_false_iff]; intro h; simp at h; omega
          have h8 : (kd == 8) = false := beq_eq_false_iff_ne.2 (by omega)
          have h8n : kd ≠ 8 := by omega
          clear hx
          have Hst2 := Lib.hid (Hst.out (by show (0 : Int) ≤ n; exact hn0))
          clear Hst Hsp
          clear hkd
          go_wp2_with fail
          refine (sStepAs (s := ⟨kd, vl, md, nm⟩) hok hsn hsm).mono ?_
          rintro e w1 ⟨rfl, hb1⟩
          have B1 := Lib.hid (B0.out.trans (hb1.mono B0.out.size))
          obtain ⟨y0, y1, y2, y3⟩ : (∃ X : Box w1 wr.heap.size 72 #[.int .i64 kd, .int .i64 vl, .string md, .string nm], True) ∧ True ∧ True ∧ True := ⟨⟨X0.out.below hb1 X0.out.lt, trivial⟩, trivial, trivial, trivial⟩
          obtain ⟨X1, _⟩ := y0
          have x0 : _ = some (Value.int .i64 kd) := X1.cell 0
          have hs1 := B1.out.size
          clear hb1 X1 y1 y2 y3 X0
          go_wp2_with (go_at_call 73; refine (sTwoAs hin).mono ?_; rintro e w' ⟨rfl, rfl⟩)
          exact ⟨⟨k + 1, n + (1 - 0), xs ++ [ActD.num x], by congr 1, congrArg (Value.int .i64) (by omega), by omega, Hst2.out, B1.out⟩, by simp [intOf]; omega⟩
        case name x y =>
          have hkd : kd = 2 := by
            rcases hx with ⟨h, _, _, _, _, hh⟩ | ⟨h, _, _, _, hh⟩ | ⟨h, _, hh⟩ | ⟨i, hi, h, _, hh⟩
            · cases hh
            · exact h
            · cases hh
            · cases hh
          have hin : (decide (3 ≤ kd) && decide (kd ≤ 7)) = false := by rw [Bool.eq_false_iff]; intro h; simp at h; omega
          have h8 : (kd == 8) = false := beq_eq_false_iff_ne.2 (by omega)
          have h8n : kd ≠ 8 := by omega
          clear hx
          have Hst2 := Lib.hid (Hst.out (by show (0 : Int) ≤ n; exact hn0))
          clear Hst Hsp
          clear hkd
          go_wp2_with fail
          refine (sStepAs (s := ⟨kd, vl, md, nm⟩) hok hsn hsm).mono ?_
          rintro e w1 ⟨rfl, hb1⟩
          have B1 := Lib.hid (B0.out.trans (hb1.mono B0.out.size))
          obtain ⟨y0, y1, y2, y3⟩ : (∃ X : Box w1 wr.heap.size 72 #[.int .i64 kd, .int .i64 vl, .string md, .string nm], True) ∧ True ∧ True ∧ True := ⟨⟨X0.out.below hb1 X0.out.lt, trivial⟩, trivial, trivial, trivial⟩
          obtain ⟨X1, _⟩ := y0
          have x0 : _ = some (Value.int .i64 kd) := X1.cell 0
          have hs1 := B1.out.size
          clear hb1 X1 y1 y2 y3 X0
          go_wp2_with (go_at_call 73; refine (sTwoAs hin).mono ?_; rintro e w' ⟨rfl, rfl⟩)
          exact ⟨⟨k + 1, n + (1 - 0), xs ++ [ActD.name x y], by congr 1, congrArg (Value.int .i64) (by omega), by omega, Hst2.out, B1.out⟩, by simp [intOf]; omega⟩
        case pair j =>
          have hkd : 3 ≤ kd ∧ kd ≤ 7 := by
            rcases hx with ⟨h, _, _, _, _, hh⟩ | ⟨h, _, _, _, hh⟩ | ⟨h, _, hh⟩ | ⟨i, hi, h, _, hh⟩
            · cases hh
            · cases hh
            · cases hh
            · have h : kd = 3 + (i : Int) := h; omega
          have hin : (decide (3 ≤ kd) && decide (kd ≤ 7)) = true := by rw [Bool.and_eq_true]; exact ⟨decide_eq_true (by omega), decide_eq_true (by omega)⟩
          have h8 : (kd == 8) = false := beq_eq_false_iff_ne.2 (by omega)
          have h8n : kd ≠ 8 := by omega
          clear hx
          by_cases hq : 2 ≤ n
          · have Hst2 := Lib.hid (Hst.out (by show (2 : Int) ≤ n; exact hq))
            clear Hst Hsp
            clear hkd
            go_wp2_with fail
            refine (sStepAs (s := ⟨kd, vl, md, nm⟩) hok hsn hsm).mono ?_
            rintro e w1 ⟨rfl, hb1⟩
            have B1 := Lib.hid (B0.out.trans (hb1.mono B0.out.size))
            obtain ⟨y0, y1, y2, y3⟩ : (∃ X : Box w1 wr.heap.size 72 #[.int .i64 kd, .int .i64 vl, .string md, .string nm], True) ∧ True ∧ True ∧ True := ⟨⟨X0.out.below hb1 X0.out.lt, trivial⟩, trivial, trivial, trivial⟩
            obtain ⟨X1, _⟩ := y0
            have x0 : _ = some (Value.int .i64 kd) := X1.cell 0
            have hs1 := B1.out.size
            clear hb1 X1 y1 y2 y3 X0
            go_wp2_with (go_at_call 73; refine (sTwoAs hin).mono ?_; rintro e w' ⟨rfl, rfl⟩)
            exact ⟨⟨k + 1, n + (1 - 2), xs ++ [ActD.pair j], by congr 1, congrArg (Value.int .i64) (by omega), by omega, Hst2.out, B1.out⟩, by simp [intOf]; omega⟩
          · have Z := Lib.hid (Hsp.out (by show ¬ (2 : Int) ≤ n; exact hq))
            clear Hst Hsp
            clear hkd
            go_wp2_with fail
            refine (sStepAs (s := ⟨kd, vl, md, nm⟩) hok hsn hsm).mono ?_
            rintro e w1 ⟨rfl, hb1⟩
            have B1 := Lib.hid (B0.out.trans (hb1.mono B0.out.size))
            obtain ⟨y0, y1, y2, y3⟩ : (∃ X : Box w1 wr.heap.size 72 #[.int .i64 kd, .int .i64 vl, .string md, .string nm], True) ∧ True ∧ True ∧ True := ⟨⟨X0.out.below hb1 X0.out.lt, trivial⟩, trivial, trivial, trivial⟩
            obtain ⟨X1, _⟩ := y0
            have x0 : _ = some (Value.int .i64 kd) := X1.cell 0
            have hs1 := B1.out.size
            clear hb1 X1 y1 y2 y3 X0
            go_wp2_with (go_at_call 73; refine (sTwoAs hin).mono ?_; rintro e w' ⟨rfl, rfl⟩)
            go_ret
            exact ⟨by rw [Z.out]; rfl, B1.out⟩
        case minus =>
          have hkd : kd = 8 := by
            rcases hx with ⟨h, _, _, _, _, hh⟩ | ⟨h, _, _, _, hh⟩ | ⟨h, _, hh⟩ | ⟨i, hi, h, _, hh⟩
            · cases hh
            · cases hh
            · exact h
            · cases hh
          subst hkd
          have hin : (decide ((3 : Int) ≤ 8) && decide ((8 : Int) ≤ 7)) = false := by decide
          clear hx
          by_cases hq : 1 ≤ n
          · have Hst2 := Lib.hid (Hst.out (by show (1 : Int) ≤ n; exact hq))
            clear Hst Hsp
            go_wp2_with fail
            refine (sStepAs (s := ⟨8, vl, md, nm⟩) hok hsn hsm).mono ?_
            rintro e w1 ⟨rfl, hb1⟩
            have B1 := Lib.hid (B0.out.trans (hb1.mono B0.out.size))
            obtain ⟨y0, y1, y2, y3⟩ : (∃ X : Box w1 wr.heap.size 72 #[.int .i64 8, .int .i64 vl, .string md, .string nm], True) ∧ True ∧ True ∧ True := ⟨⟨X0.out.below hb1 X0.out.lt, trivial⟩, trivial, trivial, trivial⟩
            obtain ⟨X1, _⟩ := y0
            have x0 : _ = some (Value.int .i64 8) := X1.cell 0
            have hs1 := B1.out.size
            clear hb1 X1 y1 y2 y3 X0
            go_wp2_with (go_at_call 73; refine (sTwoAs hin).mono ?_; rintro e w' ⟨rfl, rfl⟩)
            exact ⟨⟨k + 1, n + (1 - 1), xs ++ [ActD.minus], by congr 1, congrArg (Value.int .i64) (by omega), by omega, Hst2.out, B1.out⟩, by simp [intOf]; omega⟩
          · have Z := Lib.hid (Hsp.out (by show ¬ (1 : Int) ≤ n; exact hq))
            clear Hst Hsp
            go_wp2_with fail
            refine (sStepAs (s := ⟨8, vl, md, nm⟩) hok hsn hsm).mono ?_
            rintro e w1 ⟨rfl, hb1⟩
            have B1 := Lib.hid (B0.out.trans (hb1.mono B0.out.size))
            obtain ⟨y0, y1, y2, y3⟩ : (∃ X : Box w1 wr.heap.size 72 #[.int .i64 8, .int .i64 vl, .string md, .string nm], True) ∧ True ∧ True ∧ True := ⟨⟨X0.out.below hb1 X0.out.lt, trivial⟩, trivial, trivial, trivial⟩
            obtain ⟨X1, _⟩ := y0
            have x0 : _ = some (Value.int .i64 8) := X1.cell 0
            have hs1 := B1.out.size
            clear hb1 X1 y1 y2 y3 X0
            go_wp2_with (go_at_call 73; refine (sTwoAs hin).mono ?_; rintro e w' ⟨rfl, rfl⟩)
            go_ret
            exact ⟨by rw [Z.out]; rfl, B1.out⟩
      · have hok := okSB_false (fun a h => hex ⟨a, h⟩)
        have Z := Lib.hid (Hstop.out (fun a h => absurd ⟨a, h⟩ hex))
        clear hex Hstep Hstop
        go_wp2_with fail
        refine (sStepAs (s := ⟨kd, vl, md, nm⟩) hok hsn hsm).mono ?_
        rintro e w1 ⟨rfl, hb1⟩
        have B1 := Lib.hid (B0.out.trans (hb1.mono B0.out.size))
        clear hb1
        go_wp2_with fail
        go_ret
        exact ⟨by rw [Z.out]; rfl, B1.out⟩
    · obtain rfl : k = l.length := by omega
      have To2 := Lib.hid (List.take_length ▸ To.out)
      clear hxl hn1
      have Hbel := Lib.hid hbel
      clear hbel
      by_cases h1 : n = 1
      · have h1b : (n == 1) = true := beq_iff_eq.2 h1
        have H1 := Lib.hid h1
        clear h1
        by_cases h2 : l.length ≤ 40
        · have Z := Lib.hid (goodEB_true ⟨h2, H1.out ▸ To2.out⟩)
          go_wp2_with fail
          go_ret
          exact ⟨by rw [Z.out]; show Ending.returned (.bool (decide ((l.length : Int) ≤ 40))) = _; rw [decide_eq_true (by omega)], Hbel.out⟩
        · have Z := Lib.hid (goodEB_false (l := l) (fun ys h => h2 h.1))
          go_wp2_with fail
          go_ret
          exact ⟨by rw [Z.out]; show Ending.returned (.bool (decide ((l.length : Int) ≤ 40))) = _; rw [decide_eq_false (by omega)], Hbel.out⟩
      · have h1b : (n == 1) = false := beq_eq_false_iff_ne.2 h1
        have Z := Lib.hid (goodEB_false (l := l) (fun ys h => h1 (To2.out.unique h.2).1))
        clear h1
        go_wp2_with fail
        go_ret
        exact ⟨by rw [Z.out]; rfl, Hbel.out⟩

end Go.Proofs.YteajdempddklgaaDoor
