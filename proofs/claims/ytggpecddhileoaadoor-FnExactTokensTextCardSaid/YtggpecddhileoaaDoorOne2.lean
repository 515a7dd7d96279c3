
/-
  What is proved: the contract of the model's l2One at a digit. No condition beside what each theorem states.
-/
import Derived.Test.YtggpecddhileoaaDoorOne
namespace Go.Proofs.YtggpecddhileoaaDoor
open Go.ChangeShapes Go.WideShapes Go.ChangeAt Go.RowKit

set_option maxRecDepth 100000 in
set_option maxHeartbeats 8000000 in
theorem sOne_digit (s : ByteArray) (k : Nat) (w : World) (hs : s.size ≤ 2000000) (hk : k < s.size) (hdk : digt (byteAt s k) = true) :
    Calls Tryd.prog 36 #[.string s, .int .i64 k] w fun e w' => ∃ m, IsPiece s k m ∧ OneAns s k m e ∧ Below w.heap.size w w' := by
  have ek := byteAt_get s k hk
  have hd : digt (byteAt s k) = true := hdk
  have hl : lett (byteAt s k) = false := by
    cases hh : lett (byteAt s k)
    · rfl
    · rw [lett_digt hh] at hd; cases hd
  have hal : alnum (byteAt s k) = true := by unfold alnum; rw [hd]; simp
  clear hdk
  go_enter Tryd.func36, Tryd.ntmps36
  go_wp2_with (first | (go_at_call 57; refine (sLetter _ _).mono ?_; rintro e w' ⟨rfl, rfl⟩) | (go_at_call 58; refine (sDigit _ _).mono ?_; rintro e w' ⟨rfl, rfl⟩))
  go_loopw [6] (fun i w' => ∃ j : Nat, w' = ((w.alloc (.cells #[.int .i64 0, .string ⟨#[]⟩, .int .i64 0, .int .i64 0] 33)).alloc (.cells #[.int .i64 4, .string ⟨#[]⟩, .int .i64 0, .int .i64 k] 33)) ∧ k < j ∧ j ≤ s.size ∧ i = .int .i64 j ∧ ∀ q, k ≤ q → q < j → alnum (byteAt s q) = true) (fun i _ => s.size - (intOf i).toNat)
  case atStart => exact ⟨k + 1, rfl, by omega, by omega, by go_num, fun q h1 h2 => by rw [show q = k by omega]; exact hal⟩
  case round =>
    obtain ⟨j, rfl, hkj, hjs, rfl, hall⟩ := hrel
    have Hall := Lib.hid hall
    clear hall
    by_cases hlt : j < s.size
    · have ej := byteAt_get s j hlt
      have dj : decide ((j : Int) < (s.size : Int)) = true := decide_eq_true (by omega)
      cases hlj : lett (byteAt s j)
      · cases hdj : digt (byteAt s j)
        · have HP : IsPiece s k j := ⟨hkj, hjs, .inl ⟨hal, Hall.out, fun _ => by unfold alnum; rw [hlj, hdj]; rfl⟩⟩
          have hP := Lib.hid HP
          have hsl := cutPiece s k j (by omega) (by omega)
          have hsz : (s.extract k j).size ≤ maxLen := by unfold maxLen; rw [ByteArray.size_extract]; omega
          have hp0 : digt (byteAt (s.extract k j) 0) = true := by rw [byteAt_extract s k j 0 (by omega) (by omega), Nat.add_zero]; exact hd
          by_cases hn : numOk (s.extract k j)
          · have HA := Lib.hid (show OneAns s k j (.returned (.tuple #[.agg #[.int .i64 3, .string (s.extract k j), .int .i64 (numVal (s.extract k j)), .int .i64 k], .int .i64 0])) from .inl ⟨_, _, tokF_num hn, rfl⟩)
            have Hn := Lib.hid hn
            clear hn hp0 HP
            generalize s.extract k j = p at *
            go_wp2_with (first | (go_at_call 57; refine (sLetter _ _).mono ?_; rintro e w' ⟨rfl, rfl⟩) | (go_at_call 58; refine (sDigit _ _).mono ?_; rintro e w' ⟨rfl, rfl⟩))
            refine (sNumber p _ hsz).mono ?_
            rintro e w' ⟨⟨_, rfl⟩ | ⟨hn, _⟩, rfl⟩
            · go_wp2_with (first | (go_at_call 57; refine (sLetter _ _).mono ?_; rintro e w' ⟨rfl, rfl⟩) | (go_at_call 58; refine (sDigit _ _).mono ?_; rintro e w' ⟨rfl, rfl⟩))
              refine bodyPost_ret (results_tok rfl _ _ w.heap.size _ rfl ((Box.new w _ _).alloc _) rfl) rfl ?_
              exact ⟨j, hP.out, HA.out, ((Below.refl w.heap.size w).alloc (Nat.le_refl _) _).alloc (by simp) _⟩
            · exact absurd Hn.out hn
          · have HA := Lib.hid (show ∀ (a : Int) (b : ByteArray) (c d : Int), OneAns s k j (.returned (.tuple #[.agg #[.int .i64 a, .string b, .int .i64 c, .int .i64 d], .int .i64 3])) from fun a b c d => .inr ⟨tokF_digit_none hp0 hn, a, b, c, d, by rw [hal]; rfl⟩)
            have Hn := Lib.hid hn
            clear hn hp0 HP
            generalize s.extract k j = p at *
            go_wp2_with (first | (go_at_call 57; refine (sLetter _ _).mono ?_; rintro e w' ⟨rfl, rfl⟩) | (go_at_call 58; refine (sDigit _ _).mono ?_; rintro e w' ⟨rfl, rfl⟩))
            refine (sNumber p _ hsz).mono ?_
            rintro e w' ⟨⟨hn, _⟩ | ⟨_, rfl⟩, rfl⟩
            · exact absurd hn Hn.out
            · go_wp2_with (first | (go_at_call 57; refine (sLetter _ _).mono ?_; rintro e w' ⟨rfl, rfl⟩) | (go_at_call 58; refine (sDigit _ _).mono ?_; rintro e w' ⟨rfl, rfl⟩))
              refine bodyPost_ret (results_tok rfl _ _ w.heap.size _ rfl ((Box.new w _ _).alloc _) rfl) rfl ?_
              exact ⟨j, hP.out, HA.out _ _ _ _, ((Below.refl w.heap.size w).alloc (Nat.le_refl _) _).alloc (by simp) _⟩
        · have Hall' := Lib.hid (show ∀ q, k ≤ q → q < j + 1 → alnum (byteAt s q) = true from fun q h1 h2 => by
            by_cases e : q = j
            · rw [e]; unfold alnum; rw [hdj]; simp
            · exact Hall.out q h1 (by omega))
          go_wp2_with (first | (go_at_call 57; refine (sLetter _ _).mono ?_; rintro e w' ⟨rfl, rfl⟩) | (go_at_call 58; refine (sDigit _ _).mono ?_; rintro e w' ⟨rfl, rfl⟩))
          go_roundw
          case rel => exact ⟨j + 1, trivial, by omega, by omega, by go_num, Hall'.out⟩
          case measure => simp [intOf]; omega
      · have Hall' := Lib.hid (show ∀ q, k ≤ q → q < j + 1 → alnum (byteAt s q) = true from fun q h1 h2 => by
          by_cases e : q = j
          · rw [e]; unfold alnum; rw [hlj]; rfl
          · exact Hall.out q h1 (by omega))
        go_wp2_with (first | (go_at_call 57; refine (sLetter _ _).mono ?_; rintro e w' ⟨rfl, rfl⟩) | (go_at_call 58; refine (sDigit _ _).mono ?_; rintro e w' ⟨rfl, rfl⟩))
        go_roundw
        case rel => exact ⟨j + 1, trivial, by omega, by omega, by go_num, Hall'.out⟩
        case measure => simp [intOf]; omega
    · have HP : IsPiece s k j := ⟨hkj, hjs, .inl ⟨hal, Hall.out, fun h => by omega⟩⟩
      have dj : decide ((j : Int) < (s.size : Int)) = false := decide_eq_false (by omega)
      have hP := Lib.hid HP
      have hsl := cutPiece s k j (by omega) (by omega)
      have hsz : (s.extract k j).size ≤ maxLen := by unfold maxLen; rw [ByteArray.size_extract]; omega
      have hp0 : digt (byteAt (s.extract k j) 0) = true := by rw [byteAt_extract s k j 0 (by omega) (by omega), Nat.add_zero]; exact hd
      by_cases hn : numOk (s.extract k j)
      · have HA := Lib.hid (show OneAns s k j (.returned (.tuple #[.agg #[.int .i64 3, .string (s.extract k j), .int .i64 (numVal (s.extract k j)), .int .i64 k], .int .i64 0])) from .inl ⟨_, _, tokF_num hn, rfl⟩)
        have Hn := Lib.hid hn
        clear hn hp0 HP
        generalize s.extract k j = p at *
        go_wp2_with (first | (go_at_call 57; refine (sLetter _ _).mono ?_; rintro e w' ⟨rfl, rfl⟩) | (go_at_call 58; refine (sDigit _ _).mono ?_; rintro e w' ⟨rfl, rfl⟩))
        refine (sNumber p _ hsz).mono ?_
        rintro e w' ⟨⟨_, rfl⟩ | ⟨hn, _⟩, rfl⟩
        · go_wp2_with (first | (go_at_call 57; refine (sLetter _ _).mono ?_; rintro e w' ⟨rfl, rfl⟩) | (go_at_call 58; refine (sDigit _ _).mono ?_; rintro e w' ⟨rfl, rfl⟩))
          refine bodyPost_ret (results_tok rfl _ _ w.heap.size _ rfl ((Box.new w _ _).alloc _) rfl) rfl ?_
          exact ⟨j, hP.out, HA.out, ((Below.refl w.heap.size w).alloc (Nat.le_refl _) _).alloc (by simp) _⟩
        · exact absurd Hn.out hn
      · have HA := Lib.hid (show ∀ (a : Int) (b : ByteArray) (c d : Int), OneAns s k j (.returned (.tuple #[.agg #[.int .i64 a, .string b, .int .i64 c, .int .i64 d], .int .i64 3])) from fun a b c d => .inr ⟨tokF_digit_none hp0 hn, a, b, c, d, by rw [hal]; rfl⟩)
        have Hn := Lib.hid hn
        clear hn hp0 HP
        generalize s.extract k j = p at *
        go_wp2_with (first | (go_at_call 57; refine (sLetter _ _).mono ?_; rintro e w' ⟨rfl, rfl⟩) | (go_at_call 58; refine (sDigit _ _).mono ?_; rintro e w' ⟨rfl, rfl⟩))
        refine (sNumber p _ hsz).mono ?_
        rintro e w' ⟨⟨hn, _⟩ | ⟨_, rfl⟩, rfl⟩
        · exact absurd hn Hn.out
        · go_wp2_with (first | (go_at_call 57; refine (sLetter _ _).mono ?_; rintro e w' ⟨rfl, rfl⟩) | (go_at_call 58; refine (sDigit _ _).mono ?_; rintro e w' ⟨rfl, rfl⟩))
          refine bodyPost_ret (results_tok rfl _ _ w.heap.size _ rfl ((Box.new w _ _).alloc _) rfl) rfl ?_
          exact ⟨j, hP.out, HA.out _ _ _ _, ((Below.refl w.heap.size w).alloc (Nat.le_refl _) _).alloc (by simp) _⟩

end Go.Proofs.YtggpecddhileoaaDoor
