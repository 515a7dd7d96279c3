
/-
  What is proved: the contract of the model's l2One. No condition beside what each theorem states.
-/
import Derived.Test.YtggpecddhileoaaDoorPiece
namespace Go.Proofs.YtggpecddhileoaaDoor
open Go.ChangeShapes Go.WideShapes Go.ChangeAt Go.RowKit

set_option maxHeartbeats 1000000 in
theorem sLetter (c : Int) (w : World) : Calls Tryd.prog 57 #[.int .u8 c] w fun e w' => e = .returned (.bool (lett c)) ∧ w = w' := by
  have key : lett c = ((decide (65 ≤ c) && decide (c ≤ 90)) || (decide (97 ≤ c) && decide (c ≤ 122))) := rfl
  have H := Lib.hid key
  clear key
  cases a1 : decide (65 ≤ c) <;> cases a2 : decide (c ≤ 90) <;> cases a3 : decide (97 ≤ c) <;> cases a4 : decide (c ≤ 122)
  all_goals first
    | (exfalso; simp at a1 a2 a3 a4; omega)
    | (go_enter Tryd.func57, Tryd.ntmps57
       go_wp2
       go_ret
       exact ⟨by rw [H.out, a1, a2, a3, a4]; rfl, rfl⟩)

def signZ (k : Nat) : Int := [59, 44, 46, 58, 61, 42, 45, 43, 40, 41].getD k 0
theorem signB_iff (c : Int) : signB c = true ↔ ∃ k, k < 10 ∧ signZ k = c := by
  constructor
  · intro h
    unfold signB at h
    simp at h
    rcases h with ((((((((h | h) | h) | h) | h) | h) | h) | h) | h) | h
    · exact ⟨0, by decide, h.symm⟩
    · exact ⟨1, by decide, h.symm⟩
    · exact ⟨2, by decide, h.symm⟩
    · exact ⟨3, by decide, h.symm⟩
    · exact ⟨4, by decide, h.symm⟩
    · exact ⟨5, by decide, h.symm⟩
    · exact ⟨6, by decide, h.symm⟩
    · exact ⟨7, by decide, h.symm⟩
    · exact ⟨8, by decide, h.symm⟩
    · exact ⟨9, by decide, h.symm⟩
  · rintro ⟨k, hk, rfl⟩
    match k, hk with
    | 0, _ | 1, _ | 2, _ | 3, _ | 4, _ | 5, _ | 6, _ | 7, _ | 8, _ | 9, _ => rfl
    | n + 10, h => omega

set_option maxRecDepth 100000 in
set_option maxHeartbeats 1000000 in
theorem sSign (c : Int) (w : World) : Calls Tryd.prog 61 #[.int .u8 c] w fun e w' => e = .returned (.bool (signB c)) ∧ w = w' := by
  have hidx : ∀ (k : Nat) (W : World), k < 10 → (Instr.index 9 (.string ⟨#[59, 44, 46, 58, 61, 42, 45, 43, 40, 41]⟩) (.int .i64 (k : Int))).run Tryd.prog W = .ok (.int .u8 (signZ k)) W := by
    intro k W h
    match k, h with
    | 0, _ | 1, _ | 2, _ | 3, _ | 4, _ | 5, _ | 6, _ | 7, _ | 8, _ | 9, _ =>
      show (Instr.index _ _ _).run _ _ = _
      kernel_rfl
    | n + 10, h => omega
  have Hi := Lib.hid hidx
  clear hidx
  go_enter Tryd.func61, Tryd.ntmps61
  go_wp2_with fail
  go_loop [3] (fun i => ∃ k : Nat, k ≤ 10 ∧ i = .int .i64 k ∧ ∀ j, j < k → signZ j ≠ c) (fun i => 10 - (intOf i).toNat)
  case atStart => exact ⟨0, by omega, rfl, fun j hj => absurd hj (by omega)⟩
  case round =>
    obtain ⟨k, hk10, rfl, hno⟩ := hrel
    have Hno := Lib.hid hno
    clear hno
    by_cases hlt : k < 10
    · have hx := fun W => Hi.out k W hlt
      by_cases he : signZ k = c
      · have Hw := Lib.hid ((signB_iff c).2 ⟨k, hlt, he⟩)
        have hb : (signZ k == c) = true := beq_iff_eq.2 he
        clear he
        generalize signZ k = z at *
        go_wp2_with fail
        go_ret
        exact ⟨by rw [Hw.out]; rfl, rfl⟩
      · have Hno' := Lib.hid (show ∀ j, j < k + 1 → signZ j ≠ c from fun j hj => by
          by_cases e : j = k
          · rw [e]; exact he
          · exact Hno.out j (by omega))
        have hb : (signZ k == c) = false := beq_eq_false_iff_ne.2 he
        clear he
        generalize signZ k = z at *
        go_wp2_with fail
        go_round
        case rel => exact ⟨k + 1, by omega, by go_num, Hno'.out⟩
        case measure => simp [intOf]; omega
    · have Hw := Lib.hid (show signB c = false by
        cases hh : signB c
        · rfl
        · obtain ⟨j, h1, h2⟩ := (signB_iff c).1 hh
          exact absurd h2 (Hno.out j (by omega)))
      go_wp2_with fail
      go_ret
      exact ⟨by rw [Hw.out]; rfl, rfl⟩

theorem cutPiece (b : ByteArray) (k m : Nat) (hk : k ≤ m) (hb : m ≤ b.size) (W : World) : (Instr.slice 9 (.string b) (some (.int .i64 (k : Int))) (some (.int .i64 (m : Int))) none).run Tryd.prog W = .ok (.string (b.extract k m)) W := by
  have := run_slice_string (P := Tryd.prog) W 9 b .i64 .i64 (k : Int) (m : Int) Tryd.underlying9 (by omega) (by omega) (by omega)
  rw [this, show ((k : Int)).toNat = k by omega, show ((m : Int)).toNat = m by omega]
theorem cutTo1 (b : ByteArray) (k : Nat) (hb : k < b.size) (W : World) : (Instr.slice 9 (.string b) (some (.int .i64 (k : Int))) (some (.int .i64 ((k : Int) + 1))) none).run Tryd.prog W = .ok (.string (b.extract k (k + 1))) W := cutPiece b k (k + 1) (by omega) (by omega) W

/-- What l2One answers at a place whose piece ends at m. -/
def OneAns (s : ByteArray) (k m : Nat) (e : Ending) : Prop :=
  (∃ x v, tokF (s.extract k m) = some (x, v) ∧ e = .returned (.tuple #[.agg #[.int .i64 x, .string (s.extract k m), .int .i64 v, .int .i64 k], .int .i64 0])) ∨
  (tokF (s.extract k m) = none ∧ ∃ (a : Int) (b : ByteArray) (c d : Int), e = .returned (.tuple #[.agg #[.int .i64 a, .string b, .int .i64 c, .int .i64 d], .int .i64 (if alnum (byteAt s k) = true then 3 else 4)]))

set_option maxRecDepth 100000 in
set_option maxHeartbeats 4000000 in
theorem sOne_other (s : ByteArray) (k : Nat) (w : World) (hs : s.size ≤ 2000000) (hk : k < s.size) (hl : lett (byteAt s k) = false) (hd : digt (byteAt s k) = false) :
    Calls Tryd.prog 36 #[.string s, .int .i64 k] w fun e w' => OneAns s k (k + 1) e ∧ Below w.heap.size w w' := by
  have ek := byteAt_get s k hk
  have hsl := cutTo1 s k hk
  have hal : alnum (byteAt s k) = false := by unfold alnum; rw [hl, hd]; rfl
  have hp0 : byteAt (s.extract k (k + 1)) 0 = byteAt s k := by rw [byteAt_extract s k (k + 1) 0 (by omega) (by omega)]; rfl
  have hsz : (s.extract k (k + 1)).size = 1 := by rw [ByteArray.size_extract]; omega
  cases hg : signB (byteAt s k)
  · have Hn := Lib.hid (tokF_other_none (p := s.extract k (k + 1)) (by rw [hp0]; exact hl) (by rw [hp0]; exact hd) (by rw [hp0]; exact hg))
    have HA := Lib.hid (show ∀ (a : Int) (b : ByteArray) (c d : Int), OneAns s k (k + 1) (.returned (.tuple #[.agg #[.int .i64 a, .string b, .int .i64 c, .int .i64 d], .int .i64 4])) from fun a b c d => .inr ⟨Hn.out, a, b, c, d, by rw [hal]; rfl⟩)
    rw [← ek] at hl hd hg
    clear ek hal hp0 hsz Hn
    generalize s.extract k (k + 1) = p at *
    go_enter Tryd.func36, Tryd.ntmps36
    go_wp2_with (first | (go_at_call 57; refine (sLetter _ _).mono ?_; rintro e w' ⟨rfl, rfl⟩) | (go_at_call 58; refine (sDigit _ _).mono ?_; rintro e w' ⟨rfl, rfl⟩) | (go_at_call 61; refine (sSign _ _).mono ?_; rintro e w' ⟨rfl, rfl⟩))
    refine bodyPost_ret (results_tok rfl _ _ w.heap.size _ rfl ((Box.new w _ _).alloc _) rfl) rfl ?_
    exact ⟨HA.out _ _ _ _, ((Below.refl w.heap.size w).alloc (Nat.le_refl _) _).alloc (by simp) _⟩
  · have Hn := Lib.hid (tokF_other_sign (p := s.extract k (k + 1)) (by rw [hp0]; exact hl) (by rw [hp0]; exact hd) hsz (by rw [hp0]; exact hg))
    have HA := Lib.hid (show OneAns s k (k + 1) (.returned (.tuple #[.agg #[.int .i64 4, .string (s.extract k (k + 1)), .int .i64 0, .int .i64 k], .int .i64 0])) from .inl ⟨_, _, Hn.out, rfl⟩)
    rw [← ek] at hl hd hg
    clear ek hal hp0 hsz Hn
    generalize s.extract k (k + 1) = p at *
    go_enter Tryd.func36, Tryd.ntmps36
    go_wp2_with (first | (go_at_call 57; refine (sLetter _ _).mono ?_; rintro e w' ⟨rfl, rfl⟩) | (go_at_call 58; refine (sDigit _ _).mono ?_; rintro e w' ⟨rfl, rfl⟩) | (go_at_call 61; refine (sSign _ _).mono ?_; rintro e w' ⟨rfl, rfl⟩))
    refine bodyPost_ret (results_tok rfl _ _ w.heap.size _ rfl ((Box.new w _ _).alloc _) rfl) rfl ?_
    exact ⟨HA.out, ((Below.refl w.heap.size w).alloc (Nat.le_refl _) _).alloc (by simp) _⟩

end Go.Proofs.YtggpecddhileoaaDoor
