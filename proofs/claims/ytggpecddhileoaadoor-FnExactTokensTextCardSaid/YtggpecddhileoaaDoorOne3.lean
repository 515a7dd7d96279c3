
/-
  What is proved: the contract of the model's l2One at a letter. No condition beside what each theorem states.
-/
import Derived.Test.YtggpecddhileoaaDoorOne2
namespace Go.Proofs.YtggpecddhileoaaDoor
open Go.ChangeShapes Go.WideShapes Go.ChangeAt Go.RowKit

theorem below_two {w w1 : World} {o o' : Obj} (h : Below ((w.alloc o).alloc o').heap.size ((w.alloc o).alloc o') w1) : Below (w.alloc o).heap.size (w.alloc o) w1 :=
  ((Below.refl (w.alloc o).heap.size (w.alloc o)).alloc (Nat.le_refl _) o').trans (h.mono (by simp))

theorem one_end {w w1 : World} {g : Nat} {o o' : Obj} {t : TypeId} {a b c d a' b' c' d' y : Value} (hg : w.heap.size = g) (h0 : Box w1 g t #[a, b, c, d]) (h1 : Box w1 (g + 1) t #[a', b', c', d'])
    (hb : Below ((w.alloc o).alloc o').heap.size ((w.alloc o).alloc o') w1) (x0 x1 x2 x3 : Value) :
    Box (((((w1.setCell ⟨g + 1, 0, none⟩ y).setCell ⟨g, 0, none⟩ x0).setCell ⟨g, 1, none⟩ x1).setCell ⟨g, 2, none⟩ x2).setCell ⟨g, 3, none⟩ x3) g t #[x0, x1, x2, x3] ∧
    Below w.heap.size w (((((w1.setCell ⟨g + 1, 0, none⟩ y).setCell ⟨g, 0, none⟩ x0).setCell ⟨g, 1, none⟩ x1).setCell ⟨g, 2, none⟩ x2).setCell ⟨g, 3, none⟩ x3) := by
  have ho : Only (g + 1) w1 (w1.setCell ⟨g + 1, 0, none⟩ y) := (Only.refl (g + 1) w1).set 0 y
  have hB := h0.only ho (by omega)
  have hb1 : Below (w.alloc o).heap.size (w.alloc o) (w1.setCell ⟨g + 1, 0, none⟩ y) := (below_two hb).trans (ho.below (by simp; omega) h1.lt)
  exact tok_end hg hb1 hB x0 x1 x2 x3

set_option maxRecDepth 100000 in
set_option maxHeartbeats 8000000 in
theorem sOne_letter (s : ByteArray) (k : Nat) (w : World) (hs : s.size ≤ 2000000) (hk : k < s.size) (hl : lett (byteAt s k) = true) :
    Calls Tryd.prog 36 #[.string s, .int .i64 k] w fun e w' => ∃ m, IsPiece s k m ∧ OneAns s k m e ∧ Below w.heap.size w w' := by
  have ek := byteAt_get s k hk
  have hal : alnum (byteAt s k) = true := by unfold alnum; rw [hl]; rfl
  go_enter Tryd.func36, Tryd.ntmps36
  go_wp2_with (first | (go_at_call 57; refine (sLetter _ _).mono ?_; rintro e w' ⟨rfl, rfl⟩) | (go_at_call 58; refine (sDigit _ _).mono ?_; rintro e w' ⟨rfl, rfl⟩))
  go_loopw [6] (fun i w' => ∃ j : Nat, w' = ((w.alloc (.cells #[.int .i64 0, .string ⟨#[]⟩, .int .i64 0, .int .i64 0] 33)).alloc (.cells #[.int .i64 4, .string ⟨#[]⟩, .int .i64 0, .int .i64 k] 33)) ∧ k < j ∧ j ≤ s.size ∧ i = .int .i64 j ∧ ∀ q, k ≤ q → q < j → alnum (byteAt s q) = true) (fun i _ => s.size - (intOf i).toNat)
  case atStart => exact ⟨k + 1, rfl, by omega, by omega, by go_num, fun q h1 h2 => by rw [show q = k by omega]; exact hal⟩
  case round =>
    obtain ⟨j, rfl, hkj, hjs, rfl, hall⟩ := hrel
    have Hall := Lib.hid hall
    clear hall
    by_cases hlt : j < s.size
    · have ej := byteAt_get s j hlt
      have dj : decide ((j : Int) < (s.size : Int)) = true := decide_eq_true (by omega)
      cases hlj : lett (byteAt s j)
      · cases hdj : digt (byteAt s j)
        · have HP : IsPiece s k j := ⟨hkj, hjs, .inl ⟨hal, Hall.out, fun _ => by unfold alnum; rw [hlj, hdj]; rfl⟩⟩
          have hP := Lib.hid HP
          have hsl := cutPiece s k j (by omega) (by omega)
          have hsz : (s.extract k j).size ≤ maxLen := by unfold maxLen; rw [ByteArray.size_extract]; omega
          have hp0 : lett (byteAt (s.extract k j) 0) = true := by rw [byteAt_extract s k j 0 (by omega) (by omega), Nat.add_zero]; exact hl
          by_cases hw : isWP (s.extract k j)
          · have HA := Lib.hid (show OneAns s k j (.returned (.tuple #[.agg #[.int .i64 2, .string (s.extract k j), .int .i64 0, .int .i64 k], .int .i64 0])) from .inl ⟨_, _, tokF_letter_word hp0 hw, rfl⟩)
            have q := isWB_true hw
            clear hw hp0 HP
            generalize s.extract k j = p at *
            go_wp2_with (first | (go_at_call 57; refine (sLetter _ _).mono ?_; rintro e w' ⟨rfl, rfl⟩) | (go_at_call 58; refine (sDigit _ _).mono ?_; rintro e w' ⟨rfl, rfl⟩))
            refine (sIsWord p _).mono ?_
            rintro e w1 ⟨rfl, hb⟩
            rw [q]
            have hB0 := ((Box.new w 33 #[.int .i64 0, .string ⟨#[]⟩, .int .i64 0, .int .i64 0]).alloc (.cells #[.int .i64 1, .string p, .int .i64 0, .int .i64 k] 33)).below hb (by simp; omega)
            have hB1 := (Box.new (w.alloc (.cells #[.int .i64 0, .string ⟨#[]⟩, .int .i64 0, .int .i64 0] 33)) 33 #[.int .i64 1, .string p, .int .i64 0, .int .i64 k]).below hb (by simp)
            simp only [World.size_alloc] at hB1
            have c0 := hB0.cell 0
            have c1 := hB0.cell 1
            have c2 := hB0.cell 2
            have c3 := hB0.cell 3
            have f0 := hB0.free 0
            have f1 := hB0.free 1
            have f2 := hB0.free 2
            have f3 := hB0.free 3
            have e0 := hB1.cell 0
            have e1 := hB1.cell 1
            have e2 := hB1.cell 2
            have e3 := hB1.cell 3
            have z0 := hB1.free 0
            simp at c0 c1 c2 c3 e0 e1 e2 e3
            have HB0 := Lib.hid hB0
            have HB1 := Lib.hid hB1
            have Hb := Lib.hid hb
            clear hB0 hB1 hb
            generalize hg : w.heap.size = g at *
            go_wp2_with (first | (go_at_call 57; refine (sLetter _ _).mono ?_; rintro e w' ⟨rfl, rfl⟩) | (go_at_call 58; refine (sDigit _ _).mono ?_; rintro e w' ⟨rfl, rfl⟩))
            obtain ⟨hb2, hb3⟩ := one_end hg HB0.out HB1.out Hb.out (.int .i64 2) (.string p) (.int .i64 0) (.int .i64 k)
            refine bodyPost_ret (results_tok rfl _ _ g _ rfl hb2 rfl) rfl ?_
            exact ⟨j, hP.out, HA.out, hb3⟩
          · have q := isWB_false hw
            by_cases hn : nameP (s.extract k j)
            · have HA := Lib.hid (show OneAns s k j (.returned (.tuple #[.agg #[.int .i64 1, .string (s.extract k j), .int .i64 0, .int .i64 k], .int .i64 0])) from .inl ⟨_, _, tokF_letter_name hp0 hw hn, rfl⟩)
              have q2 := nameB_true hn
              clear hw hp0 HP hn
              generalize s.extract k j = p at *
              go_wp2_with (first | (go_at_call 57; refine (sLetter _ _).mono ?_; rintro e w' ⟨rfl, rfl⟩) | (go_at_call 58; refine (sDigit _ _).mono ?_; rintro e w' ⟨rfl, rfl⟩))
              refine (sIsWord p _).mono ?_
              rintro e w1 ⟨rfl, hb⟩
              rw [q]
              have hB0 := ((Box.new w 33 #[.int .i64 0, .string ⟨#[]⟩, .int .i64 0, .int .i64 0]).alloc (.cells #[.int .i64 1, .string p, .int .i64 0, .int .i64 k] 33)).below hb (by simp; omega)
              have hB1 := (Box.new (w.alloc (.cells #[.int .i64 0, .string ⟨#[]⟩, .int .i64 0, .int .i64 0] 33)) 33 #[.int .i64 1, .string p, .int .i64 0, .int .i64 k]).below hb (by simp)
              simp only [World.size_alloc] at hB1
              have c0 := hB0.cell 0
              have c1 := hB0.cell 1
              have c2 := hB0.cell 2
              have c3 := hB0.cell 3
              have f0 := hB0.free 0
              have f1 := hB0.free 1
              have f2 := hB0.free 2
              have f3 := hB0.free 3
              have e0 := hB1.cell 0
              have e1 := hB1.cell 1
              have e2 := hB1.cell 2
              have e3 := hB1.cell 3
              have z0 := hB1.free 0
              simp at c0 c1 c2 c3 e0 e1 e2 e3
              have HB0 := Lib.hid hB0
              have HB1 := Lib.hid hB1
              have Hb := Lib.hid hb
              clear hB0 hB1 hb
              generalize hg : w.heap.size = g at *
              go_wp2_with (first | (go_at_call 59; refine (sl1Name _ _ hsz).mono ?_; rintro e w' ⟨rfl, rfl⟩) | (go_at_call 57; refine (sLetter _ _).mono ?_; rintro e w' ⟨rfl, rfl⟩))
              obtain ⟨hb2, hb3⟩ := tok_end hg (below_two Hb.out) HB0.out (.int .i64 1) (.string p) (.int .i64 0) (.int .i64 k)
              refine bodyPost_ret (results_tok rfl _ _ g _ rfl hb2 rfl) rfl ?_
              exact ⟨j, hP.out, HA.out, hb3⟩
            · have HA := Lib.hid (show ∀ (a : Int) (b : ByteArray) (c d : Int), OneAns s k j (.returned (.tuple #[.agg #[.int .i64 a, .string b, .int .i64 c, .int .i64 d], .int .i64 3])) from fun a b c d => .inr ⟨tokF_letter_none hp0 hw hn, a, b, c, d, by rw [hal]; rfl⟩)
              have q2 := nameB_false hn
              clear hw hp0 HP hn
              generalize s.extract k j = p at *
              go_wp2_with (first | (go_at_call 57; refine (sLetter _ _).mono ?_; rintro e w' ⟨rfl, rfl⟩) | (go_at_call 58; refine (sDigit _ _).mono ?_; rintro e w' ⟨rfl, rfl⟩))
              refine (sIsWord p _).mono ?_
              rintro e w1 ⟨rfl, hb⟩
              rw [q]
              have hB0 := ((Box.new w 33 #[.int .i64 0, .string ⟨#[]⟩, .int .i64 0, .int .i64 0]).alloc (.cells #[.int .i64 1, .string p, .int .i64 0, .int .i64 k] 33)).below hb (by simp; omega)
              have hB1 := (Box.new (w.alloc (.cells #[.int .i64 0, .string ⟨#[]⟩, .int .i64 0, .int .i64 0] 33)) 33 #[.int .i64 1, .string p, .int .i64 0, .int .i64 k]).below hb (by simp)
              simp only [World.size_alloc] at hB1
              have c0 := hB0.cell 0
              have c1 := hB0.cell 1
              have c2 := hB0.cell 2
              have c3 := hB0.cell 3
              have f0 := hB0.free 0
              have f1 := hB0.free 1
              have f2 := hB0.free 2
              have f3 := hB0.free 3
              have e0 := hB1.cell 0
              have e1 := hB1.cell 1
              have e2 := hB1.cell 2
              have e3 := hB1.cell 3
              have z0 := hB1.free 0
              simp at c0 c1 c2 c3 e0 e1 e2 e3
              have HB0 := Lib.hid hB0
              have HB1 := Lib.hid hB1
              have Hb := Lib.hid hb
              clear hB0 hB1 hb
              generalize hg : w.heap.size = g at *
              go_wp2_with (first | (go_at_call 59; refine (sl1Name _ _ hsz).mono ?_; rintro e w' ⟨rfl, rfl⟩) | (go_at_call 57; refine (sLetter _ _).mono ?_; rintro e w' ⟨rfl, rfl⟩))
              obtain ⟨hb2, hb3⟩ := tok_end hg (below_two Hb.out) HB0.out (.int .i64 1) (.string p) (.int .i64 0) (.int .i64 k)
              refine bodyPost_ret (results_tok rfl _ _ g _ rfl hb2 rfl) rfl ?_
              exact ⟨j, hP.out, HA.out _ _ _ _, hb3⟩
        · have Hall' := Lib.hid (show ∀ q, k ≤ q → q < j + 1 → alnum (byteAt s q) = true from fun q h1 h2 => by
            by_cases e : q = j
            · rw [e]; unfold alnum; rw [hdj]; simp
            · exact Hall.out q h1 (by omega))
          go_wp2_with (first | (go_at_call 57; refine (sLetter _ _).mono ?_; rintro e w' ⟨rfl, rfl⟩) | (go_at_call 58; refine (sDigit _ _).mono ?_; rintro e w' ⟨rfl, rfl⟩))
          go_roundw
          case rel => exact ⟨j + 1, trivial, by omega, by omega, by go_num, Hall'.out⟩
          case measure => simp [intOf]; omega
      · have Hall' := Lib.hid (show ∀ q, k ≤ q → q < j + 1 → alnum (byteAt s q) = true from fun q h1 h2 => by
          by_cases e : q = j
          · rw [e]; unfold alnum; rw [hlj]; rfl
          · exact Hall.out q h1 (by omega))
        go_wp2_with (first | (go_at_call 57; refine (sLetter _ _).mono ?_; rintro e w' ⟨rfl, rfl⟩) | (go_at_call 58; refine (sDigit _ _).mono ?_; rintro e w' ⟨rfl, rfl⟩))
        go_roundw
        case rel => exact ⟨j + 1, trivial, by omega, by omega, by go_num, Hall'.out⟩
        case measure => simp [intOf]; omega
    · have HP : IsPiece s k j := ⟨hkj, hjs, .inl ⟨hal, Hall.out, fun h => by omega⟩⟩
      have dj : decide ((j : Int) < (s.size : Int)) = false := decide_eq_false (by omega)
      have hP := Lib.hid HP
      have hsl := cutPiece s k j (by omega) (by omega)
      have hsz : (s.extract k j).size ≤ maxLen := by unfold maxLen; rw [ByteArray.size_extract]; omega
      have hp0 : lett (byteAt (s.extract k j) 0) = true := by rw [byteAt_extract s k j 0 (by omega) (by omega), Nat.add_zero]; exact hl
      by_cases hw : isWP (s.extract k j)
      · have HA := Lib.hid (show OneAns s k j (.returned (.tuple #[.agg #[.int .i64 2, .string (s.extract k j), .int .i64 0, .int .i64 k], .int .i64 0])) from .inl ⟨_, _, tokF_letter_word hp0 hw, rfl⟩)
        have q := isWB_true hw
        clear hw hp0 HP
        generalize s.extract k j = p at *
        go_wp2_with (first | (go_at_call 57; refine (sLetter _ _).mono ?_; rintro e w' ⟨rfl, rfl⟩) | (go_at_call 58; refine (sDigit _ _).mono ?_; rintro e w' ⟨rfl, rfl⟩))
        refine (sIsWord p _).mono ?_
        rintro e w1 ⟨rfl, hb⟩
        rw [q]
        have hB0 := ((Box.new w 33 #[.int .i64 0, .string ⟨#[]⟩, .int .i64 0, .int .i64 0]).alloc (.cells #[.int .i64 1, .string p, .int .i64 0, .int .i64 k] 33)).below hb (by simp; omega)
        have hB1 := (Box.new (w.alloc (.cells #[.int .i64 0, .string ⟨#[]⟩, .int .i64 0, .int .i64 0] 33)) 33 #[.int .i64 1, .string p, .int .i64 0, .int .i64 k]).below hb (by simp)
        simp only [World.size_alloc] at hB1
        have c0 := hB0.cell 0
        have c1 := hB0.cell 1
        have c2 := hB0.cell 2
        have c3 := hB0.cell 3
        have f0 := hB0.free 0
        have f1 := hB0.free 1
        have f2 := hB0.free 2
        have f3 := hB0.free 3
        have e0 := hB1.cell 0
        have e1 := hB1.cell 1
        have e2 := hB1.cell 2
        have e3 := hB1.cell 3
        have z0 := hB1.free 0
        simp at c0 c1 c2 c3 e0 e1 e2 e3
        have HB0 := Lib.hid hB0
        have HB1 := Lib.hid hB1
        have Hb := Lib.hid hb
        clear hB0 hB1 hb
        generalize hg : w.heap.size = g at *
        go_wp2_with (first | (go_at_call 57; refine (sLetter _ _).mono ?_; rintro e w' ⟨rfl, rfl⟩) | (go_at_call 58; refine (sDigit _ _).mono ?_; rintro e w' ⟨rfl, rfl⟩))
        obtain ⟨hb2, hb3⟩ := one_end hg HB0.out HB1.out Hb.out (.int .i64 2) (.string p) (.int .i64 0) (.int .i64 k)
        refine bodyPost_ret (results_tok rfl _ _ g _ rfl hb2 rfl) rfl ?_
        exact ⟨j, hP.out, HA.out, hb3⟩
      · have q := isWB_false hw
        by_cases hn : nameP (s.extract k j)
        · have HA := Lib.hid (show OneAns s k j (.returned (.tuple #[.agg #[.int .i64 1, .string (s.extract k j), .int .i64 0, .int .i64 k], .int .i64 0])) from .inl ⟨_, _, tokF_letter_name hp0 hw hn, rfl⟩)
          have q2 := nameB_true hn
          clear hw hp0 HP hn
          generalize s.extract k j = p at *
          go_wp2_with (first | (go_at_call 57; refine (sLetter _ _).mono ?_; rintro e w' ⟨rfl, rfl⟩) | (go_at_call 58; refine (sDigit _ _).mono ?_; rintro e w' ⟨rfl, rfl⟩))
          refine (sIsWord p _).mono ?_
          rintro e w1 ⟨rfl, hb⟩
          rw [q]
          have hB0 := ((Box.new w 33 #[.int .i64 0, .string ⟨#[]⟩, .int .i64 0, .int .i64 0]).alloc (.cells #[.int .i64 1, .string p, .int .i64 0, .int .i64 k] 33)).below hb (by simp; omega)
          have hB1 := (Box.new (w.alloc (.cells #[.int .i64 0, .string ⟨#[]⟩, .int .i64 0, .int .i64 0] 33)) 33 #[.int .i64 1, .string p, .int .i64 0, .int .i64 k]).below hb (by simp)
          simp only [World.size_alloc] at hB1
          have c0 := hB0.cell 0
          have c1 := hB0.cell 1
          have c2 := hB0.cell 2
          have c3 := hB0.cell 3
          have f0 := hB0.free 0
          have f1 := hB0.free 1
          have f2 := hB0.free 2
          have f3 := hB0.free 3
          have e0 := hB1.cell 0
          have e1 := hB1.cell 1
          have e2 := hB1.cell 2
          have e3 := hB1.cell 3
          have z0 := hB1.free 0
          simp at c0 c1 c2 c3 e0 e1 e2 e3
          have HB0 := Lib.hid hB0
          have HB1 := Lib.hid hB1
          have Hb := Lib.hid hb
          clear hB0 hB1 hb
          generalize hg : w.heap.size = g at *
          go_wp2_with (first | (go_at_call 59; refine (sl1Name _ _ hsz).mono ?_; rintro e w' ⟨rfl, rfl⟩) | (go_at_call 57; refine (sLetter _ _).mono ?_; rintro e w' ⟨rfl, rfl⟩))
          obtain ⟨hb2, hb3⟩ := tok_end hg (below_two Hb.out) HB0.out (.int .i64 1) (.string p) (.int .i64 0) (.int .i64 k)
          refine bodyPost_ret (results_tok rfl _ _ g _ rfl hb2 rfl) rfl ?_
          exact ⟨j, hP.out, HA.out, hb3⟩
        · have HA := Lib.hid (show ∀ (a : Int) (b : ByteArray) (c d : Int), OneAns s k j (.returned (.tuple #[.agg #[.int .i64 a, .string b, .int .i64 c, .int .i64 d], .int .i64 3])) from fun a b c d => .inr ⟨tokF_letter_none hp0 hw hn, a, b, c, d, by rw [hal]; rfl⟩)
          have q2 := nameB_false hn
          clear hw hp0 HP hn
          generalize s.extract k j = p at *
          go_wp2_with (first | (go_at_call 57; refine (sLetter _ _).mono ?_; rintro e w' ⟨rfl, rfl⟩) | (go_at_call 58; refine (sDigit _ _).mono ?_; rintro e w' ⟨rfl, rfl⟩))
          refine (sIsWord p _).mono ?_
          rintro e w1 ⟨rfl, hb⟩
          rw [q]
          have hB0 := ((Box.new w 33 #[.int .i64 0, .string ⟨#[]⟩, .int .i64 0, .int .i64 0]).alloc (.cells #[.int .i64 1, .string p, .int .i64 0, .int .i64 k] 33)).below hb (by simp; omega)
          have hB1 := (Box.new (w.alloc (.cells #[.int .i64 0, .string ⟨#[]⟩, .int .i64 0, .int .i64 0] 33)) 33 #[.int .i64 1, .string p, .int .i64 0, .int .i64 k]).below hb (by simp)
          simp only [World.size_alloc] at hB1
          have c0 := hB0.cell 0
          have c1 := hB0.cell 1
          have c2 := hB0.cell 2
          have c3 := hB0.cell 3
          have f0 := hB0.free 0
          have f1 := hB0.free 1
          have f2 := hB0.free 2
          have f3 := hB0.free 3
          have e0 := hB1.cell 0
          have e1 := hB1.cell 1
          have e2 := hB1.cell 2
          have e3 := hB1.cell 3
          have z0 := hB1.free 0
          simp at c0 c1 c2 c3 e0 e1 e2 e3
          have HB0 := Lib.hid hB0
          have HB1 := Lib.hid hB1
          have Hb := Lib.hid hb
          clear hB0 hB1 hb
          generalize hg : w.heap.size = g at *
          go_wp2_with (first | (go_at_call 59; refine (sl1Name _ _ hsz).mono ?_; rintro e w' ⟨rfl, rfl⟩) | (go_at_call 57; refine (sLetter _ _).mono ?_; rintro e w' ⟨rfl, rfl⟩))
          obtain ⟨hb2, hb3⟩ := tok_end hg (below_two Hb.out) HB0.out (.int .i64 1) (.string p) (.int .i64 0) (.int .i64 k)
          refine bodyPost_ret (results_tok rfl _ _ g _ rfl hb2 rfl) rfl ?_
          exact ⟨j, hP.out, HA.out _ _ _ _, hb3⟩

/-- l2One at a place of a text. -/
theorem sOne (s : ByteArray) (k : Nat) (w : World) (hs : s.size ≤ 2000000) (hk : k < s.size) :
    Calls Tryd.prog 36 #[.string s, .int .i64 k] w fun e w' => ∃ m, IsPiece s k m ∧ OneAns s k m e ∧ Below w.heap.size w w' := by
  cases hl : lett (byteAt s k)
  · cases hd : digt (byteAt s k)
    · refine (sOne_other s k w hs hk hl hd).mono ?_
      rintro e w' ⟨h1, h2⟩
      exact ⟨k + 1, ⟨by omega, by omega, .inr ⟨by unfold alnum; rw [hl, hd]; rfl, rfl⟩⟩, h1, h2⟩
    · exact sOne_digit s k w hs hk hd
  · exact sOne_letter s k w hs hk hl

theorem extract_all (s : ByteArray) : s.extract 0 s.size = s := by
  apply ByteArray.ext
  simp

/-- l2One of a whole text: the token that it is, or something else. -/
theorem sOne_whole (s : ByteArray) (w : World) (hs : s.size ≤ 2000000) (hk : 0 < s.size) :
    Calls Tryd.prog 36 #[.string s, .int .i64 0] w fun e w' => Below w.heap.size w w' ∧
      ((∃ x v, tokF s = some (x, v) ∧ e = .returned (.tuple #[.agg #[.int .i64 x, .string s, .int .i64 v, .int .i64 0], .int .i64 0])) ∨
       (tokF s = none ∧ ((∃ (x : Int) (p : ByteArray) (v : Int), p ≠ s ∧ e = .returned (.tuple #[.agg #[.int .i64 x, .string p, .int .i64 v, .int .i64 0], .int .i64 0])) ∨ (∃ (a : Int) (b : ByteArray) (c d y : Int), 0 < y ∧ e = .returned (.tuple #[.agg #[.int .i64 a, .string b, .int .i64 c, .int .i64 d], .int .i64 y]))))) := by
  refine (sOne s 0 w hs hk).mono ?_
  rintro e w' ⟨m, hp, ha, hb⟩
  refine ⟨hb, ?_⟩
  cases ht : tokF s with
  | some x =>
    obtain rfl : m = s.size := hp.unique (tokF_piece ht)
    rcases ha with ⟨y, v, h1, h2⟩ | ⟨h1, _⟩
    · rw [extract_all] at h1 h2
      rw [ht] at h1
      exact .inl ⟨y, v, h1, h2⟩
    · rw [extract_all, ht] at h1
      cases h1
  | none =>
    refine .inr ⟨rfl, ?_⟩
    rcases ha with ⟨y, v, h1, h2⟩ | ⟨_, a, b, c, d, h2⟩
    · refine .inl ⟨y, _, v, fun e => ?_, h2⟩
      rw [e, ht] at h1
      cases h1
    · exact .inr ⟨a, b, c, d, _, by split <;> decide, h2⟩

end Go.Proofs.YtggpecddhileoaaDoor
