
/-
  What is proved: contracts of chapter 1's functions on names (isLetter, isDigit, GoodName, NameBytes of the program; l1Name, l1NameBytes and what is over them of its model), and from them the walks of two laws; contracts of NameBytes of the program and of its model, and from them the walk of its law; small facts on bytes of texts. No condition beside what each theorem states.
-/
import Derived.Test.YtllddjmcemcdhaaGreatNum
import Derived.Laws.BytesArg
namespace Go.Proofs.YtllddjmcemcdhaaGreat
open Go.ChangeShapes Go.WideShapes Go.ChangeAt Go.RowKit

def lett (c : Int) : Bool := (decide (65 ≤ c) && decide (c ≤ 90)) || (decide (97 ≤ c) && decide (c ≤ 122))
def digt (c : Int) : Bool := decide (48 ≤ c) && decide (c ≤ 57)

/-- The byte at a place, 0 where there is none. -/
def byteAt (s : ByteArray) (k : Nat) : Int := if h : k < s.size then (s[k].toNat : Int) else 0
theorem byteAt_get (s : ByteArray) (k : Nat) (h : k < s.size) : (s[k].toNat : Int) = byteAt s k := by unfold byteAt; rw [dif_pos h]

def okAt (s : ByteArray) (k : Nat) : Prop := lett (byteAt s k) = true ∨ (k ≠ 0 ∧ digt (byteAt s k) = true)
def nameP (s : ByteArray) : Prop := 1 ≤ s.size ∧ s.size ≤ 10 ∧ ∀ j, j < s.size → okAt s j
open Classical in
noncomputable def nameB (s : ByteArray) : Bool := decide (nameP s)
theorem nameB_true {s : ByteArray} (h : nameP s) : nameB s = true := by unfold nameB; simpa using h
theorem nameB_false {s : ByteArray} (h : ¬ nameP s) : nameB s = false := by unfold nameB; simpa using h

def okTo (s : ByteArray) (k : Nat) : Prop := ∀ j, j < k → okAt s j
theorem okTo_snoc {s : ByteArray} {k : Nat} (h : okTo s k) (h1 : okAt s k) : okTo s (k + 1) := fun j hj => by
  by_cases e : j = k
  · rw [e]; exact h1
  · exact h j (by omega)
theorem okTo_one {s : ByteArray} (h : okAt s 0) : okTo s 1 := fun j hj => by rw [show j = 0 by omega]; exact h

set_option maxHeartbeats 1000000 in
theorem iLetter (c : Int) (w : World) : Calls Tryz.prog 71 #[.int .u8 c] w fun e w' => e = .returned (.bool (lett c)) ∧ w = w' := by
  have key : lett c = ((decide (65 ≤ c) && decide (c ≤ 90)) || (decide (97 ≤ c) && decide (c ≤ 122))) := rfl
  have H := Lib.hid key
  clear key
  cases a1 : decide (65 ≤ c) <;> cases a2 : decide (c ≤ 90) <;> cases a3 : decide (97 ≤ c) <;> cases a4 : decide (c ≤ 122)
  all_goals first
    | (exfalso; simp at a1 a2 a3 a4; omega)
    | (go_enter Tryz.func71, Tryz.ntmps71
       go_wp2
       go_ret
       exact ⟨by rw [H.out, a1, a2, a3, a4]; rfl, rfl⟩)

theorem iDigit (c : Int) (w : World) : Calls Tryz.prog 72 #[.int .u8 c] w fun e w' => e = .returned (.bool (digt c)) ∧ w = w' := by
  have key : digt c = (decide (48 ≤ c) && decide (c ≤ 57)) := rfl
  have H := Lib.hid key
  clear key
  cases a1 : decide (48 ≤ c) <;> cases a2 : decide (c ≤ 57)
  all_goals first
    | (exfalso; simp at a1 a2; omega)
    | (go_enter Tryz.func72, Tryz.ntmps72
       go_wp2
       go_ret
       exact ⟨by rw [H.out, a1, a2]; rfl, rfl⟩)

set_option maxHeartbeats 1000000 in
theorem iGoodName (s : ByteArray) (w : World) (hs : s.size ≤ maxLen) : Calls Tryz.prog 50 #[.string s] w fun e w' => e = .returned (.bool (nameB s)) ∧ w = w' := by
  unfold maxLen at hs
  by_cases h0 : s.size < 1
  · have Hn := Lib.hid (nameB_false (s := s) (fun h => by have := h.1; omega))
    go_enter Tryz.func50, Tryz.ntmps50
    go_wp2_with (fail)
    go_ret
    exact ⟨by rw [Hn.out]; rfl, rfl⟩
  by_cases h1 : 10 < s.size
  · have Hn := Lib.hid (nameB_false (s := s) (fun h => by have := h.2.1; omega))
    go_enter Tryz.func50, Tryz.ntmps50
    go_wp2_with (fail)
    go_ret
    exact ⟨by rw [Hn.out]; rfl, rfl⟩
  have hp : 0 < s.size := by omega
  have d0 : decide ((s.size : Int) < 1) = false := by simp; omega
  have d1 : decide (10 < (s.size : Int)) = false := by simp; omega
  have e0 := byteAt_get s 0 hp
  cases hl : lett (s[0].toNat : Int)
  · have Hn := Lib.hid (nameB_false (s := s) (fun h => by
      rcases h.2.2 0 hp with h | h
      · rw [e0] at hl; rw [hl] at h; cases h
      · exact h.1 rfl))
    clear e0
    go_enter Tryz.func50, Tryz.ntmps50
    go_wp2_with (go_at_call 71; refine (iLetter _ _).mono ?_; rintro e w' ⟨rfl, rfl⟩)
    go_ret
    exact ⟨by rw [Hn.out]; rfl, rfl⟩
  · have H0 : okAt s 0 := Or.inl (by rw [← e0]; exact hl)
    clear e0
    go_enter Tryz.func50, Tryz.ntmps50
    go_wp2_with (go_at_call 71; refine (iLetter _ _).mono ?_; rintro e w' ⟨rfl, rfl⟩)
    go_loop [3] (fun i => ∃ k : Nat, k ≤ s.size ∧ 1 ≤ k ∧ i = .int .i64 k ∧ okTo s k) (fun i => s.size - (intOf i).toNat)
    case atStart => exact ⟨1, by omega, by omega, rfl, okTo_one H0⟩
    case round =>
      obtain ⟨k, hk, hk1, rfl, hok⟩ := hrel
      by_cases hlt : k < s.size
      · have ek := byteAt_get s k hlt
        cases hlk : lett (s[k].toNat : Int)
        · cases hdk : digt (s[k].toNat : Int)
          · have Hn := Lib.hid (nameB_false (s := s) (fun h => by
              rcases h.2.2 k hlt with h | h
              · rw [ek] at hlk; rw [hlk] at h; cases h
              · rw [ek] at hdk; rw [hdk] at h; cases h.2))
            clear ek
            go_wp2_with (first | (go_at_call 71; refine (iLetter _ _).mono ?_; rintro e w' ⟨rfl, rfl⟩) | (go_at_call 72; refine (iDigit _ _).mono ?_; rintro e w' ⟨rfl, rfl⟩))
            go_ret
            exact ⟨by rw [Hn.out]; rfl, rfl⟩
          · have hok' := okTo_snoc hok (Or.inr ⟨by omega, by rw [← ek]; exact hdk⟩)
            clear ek
            go_wp2_with (first | (go_at_call 71; refine (iLetter _ _).mono ?_; rintro e w' ⟨rfl, rfl⟩) | (go_at_call 72; refine (iDigit _ _).mono ?_; rintro e w' ⟨rfl, rfl⟩))
            go_round
            case rel => exact ⟨k + 1, by omega, by omega, by go_num, hok'⟩
            case measure => simp [intOf]; omega
        · have hok' := okTo_snoc hok (Or.inl (by rw [← ek]; exact hlk))
          clear ek
          go_wp2_with (first | (go_at_call 71; refine (iLetter _ _).mono ?_; rintro e w' ⟨rfl, rfl⟩) | (go_at_call 72; refine (iDigit _ _).mono ?_; rintro e w' ⟨rfl, rfl⟩))
          go_round
          case rel => exact ⟨k + 1, by omega, by omega, by go_num, hok'⟩
          case measure => simp [intOf]; omega
      · have Hn := Lib.hid (nameB_true (s := s) ⟨by omega, by omega, fun j hj => hok j (by omega)⟩)
        go_wp2_with fail
        go_ret
        exact ⟨by rw [Hn.out]; rfl, rfl⟩

theorem slett (c : Int) : lett c = ((decide (65 ≤ c) && decide (c ≤ 90)) || (decide (97 ≤ c) && decide (c ≤ 122))) := rfl

theorem bad_of {s : ByteArray} {k : Nat} {c : Int} (e : byteAt s k = c) (h : ¬ (65 ≤ c ∧ c ≤ 90) ∧ ¬ (97 ≤ c ∧ c ≤ 122)) (h2 : k = 0 ∨ ¬ (48 ≤ c ∧ c ≤ 57)) : ¬ okAt s k := by
  unfold okAt
  rw [e, slett]
  unfold digt
  simp
  omega

set_option maxHeartbeats 4000000 in
theorem sl1Name (s : ByteArray) (w : World) (hs : s.size ≤ maxLen) : Calls Tryz.prog 39 #[.string s] w fun e w' => e = .returned (.bool (nameB s)) ∧ w = w' := by
  unfold maxLen at hs
  go_enter Tryz.func39, Tryz.ntmps39
  go_wp2_with fail
  go_loop [3] (fun i => ∃ k : Nat, k ≤ s.size ∧ i = .int .i64 k ∧ okTo s k) (fun i => s.size - (intOf i).toNat)
  case atStart => exact ⟨0, by omega, rfl, fun j hj => absurd hj (by omega)⟩
  case round =>
    obtain ⟨k, hk, rfl, hok⟩ := hrel
    by_cases hlt : k < s.size
    · have ek := byteAt_get s k hlt
      generalize hc : byteAt s k = c at ek
      have Hc := Lib.hid hc
      clear hc
      have hr : (65 ≤ c ∧ c ≤ 90) ∨ (97 ≤ c ∧ c ≤ 122) ∨ (48 ≤ c ∧ c ≤ 57) ∨ c < 48 ∨ (57 < c ∧ c < 65) ∨ (90 < c ∧ c < 97) ∨ 122 < c := by omega
      rcases hr with ⟨r1, r2⟩ | ⟨r1, r2⟩ | ⟨r1, r2⟩ | r1 | ⟨r1, r2⟩ | ⟨r1, r2⟩ | r1
      · have hok' := okTo_snoc hok (Or.inl (by rw [Hc.out, slett]; simp; omega))
        go_wp2_with fail
        go_round
        case rel => exact ⟨k + 1, by omega, by go_num, hok'⟩
        case measure => simp [intOf]; omega
      · have hok' := okTo_snoc hok (Or.inl (by rw [Hc.out, slett]; simp; omega))
        have r0 : ¬ c ≤ 90 := by omega
        go_wp2_with fail
        go_round
        case rel => exact ⟨k + 1, by omega, by go_num, hok'⟩
        case measure => simp [intOf]; omega
      · have r0 : ¬ 65 ≤ c := by omega
        have r3 : ¬ 97 ≤ c := by omega
        by_cases hk0 : k = 0
        · have Hn := Lib.hid (nameB_false (s := s) (fun h => (bad_of (k := k) (c := c) Hc.out (by omega) (Or.inl hk0)) (h.2.2 k hlt)))
          have hb : ((k : Int) == 0) = true := beq_iff_eq.2 (by omega)
          clear hk0
          go_wp2_with fail
          go_ret
          exact ⟨by rw [Hn.out]; rfl, rfl⟩
        · have hok' := okTo_snoc hok (Or.inr ⟨hk0, by rw [Hc.out]; unfold digt; simp; omega⟩)
          have hb : ((k : Int) == 0) = false := beq_eq_false_iff_ne.2 (by omega)
          have r4 : ¬ c < 48 := by omega
          have r5 : ¬ 57 < c := by omega
          go_wp2_with fail
          go_round
          case rel => exact ⟨k + 1, by omega, by go_num, hok'⟩
          case measure => simp [intOf]; omega
      · have Hn := Lib.hid (nameB_false (s := s) (fun h => (bad_of (k := k) (c := c) Hc.out (by omega) (Or.inr (by omega))) (h.2.2 k hlt)))
        clear Hc
        have q0 : decide (65 ≤ c) = false := by simp; omega
        have q1 : decide (c ≤ 90) = true := by simp; omega
        have q2 : decide (97 ≤ c) = false := by simp; omega
        have q3 : decide (c ≤ 122) = true := by simp; omega
        have q4 : decide (c < 48) = true := by simp; omega
        have q5 : decide (57 < c) = false := by simp; omega
        by_cases hk0 : k = 0
        · have hb : ((k : Int) == 0) = true := beq_iff_eq.2 (by omega)
          clear hk0
          go_wp2_with fail
          go_ret
          exact ⟨by rw [Hn.out]; rfl, rfl⟩
        · have hb : ((k : Int) == 0) = false := beq_eq_false_iff_ne.2 (by omega)
          go_wp2_with fail
          go_ret
          exact ⟨by rw [Hn.out]; rfl, rfl⟩
      · have Hn := Lib.hid (nameB_false (s := s) (fun h => (bad_of (k := k) (c := c) Hc.out (by omega) (Or.inr (by omega))) (h.2.2 k hlt)))
        clear Hc
        have q0 : decide (65 ≤ c) = false := by simp; omega
        have q1 : decide (c ≤ 90) = true := by simp; omega
        have q2 : decide (97 ≤ c) = false := by simp; omega
        have q3 : decide (c ≤ 122) = true := by simp; omega
        have q4 : decide (c < 48) = false := by simp; omega
        have q5 : decide (57 < c) = true := by simp; omega
        by_cases hk0 : k = 0
        · have hb : ((k : Int) == 0) = true := beq_iff_eq.2 (by omega)
          clear hk0
          go_wp2_with fail
          go_ret
          exact ⟨by rw [Hn.out]; rfl, rfl⟩
        · have hb : ((k : Int) == 0) = false := beq_eq_false_iff_ne.2 (by omega)
          go_wp2_with fail
          go_ret
          exact ⟨by rw [Hn.out]; rfl, rfl⟩
      · have Hn := Lib.hid (nameB_false (s := s) (fun h => (bad_of (k := k) (c := c) Hc.out (by omega) (Or.inr (by omega))) (h.2.2 k hlt)))
        clear Hc
        have q0 : decide (65 ≤ c) = true := by simp; omega
        have q1 : decide (c ≤ 90) = false := by simp; omega
        have q2 : decide (97 ≤ c) = false := by simp; omega
        have q3 : decide (c ≤ 122) = true := by simp; omega
        have q4 : decide (c < 48) = false := by simp; omega
        have q5 : decide (57 < c) = true := by simp; omega
        by_cases hk0 : k = 0
        · have hb : ((k : Int) == 0) = true := beq_iff_eq.2 (by omega)
          clear hk0
          go_wp2_with fail
          go_ret
          exact ⟨by rw [Hn.out]; rfl, rfl⟩
        · have hb : ((k : Int) == 0) = false := beq_eq_false_iff_ne.2 (by omega)
          go_wp2_with fail
          go_ret
          exact ⟨by rw [Hn.out]; rfl, rfl⟩
      · have Hn := Lib.hid (nameB_false (s := s) (fun h => (bad_of (k := k) (c := c) Hc.out (by omega) (Or.inr (by omega))) (h.2.2 k hlt)))
        clear Hc
        have q0 : decide (65 ≤ c) = true := by simp; omega
        have q1 : decide (c ≤ 90) = false := by simp; omega
        have q2 : decide (97 ≤ c) = true := by simp; omega
        have q3 : decide (c ≤ 122) = false := by simp; omega
        have q4 : decide (c < 48) = false := by simp; omega
        have q5 : decide (57 < c) = true := by simp; omega
        by_cases hk0 : k = 0
        · have hb : ((k : Int) == 0) = true := beq_iff_eq.2 (by omega)
          clear hk0
          go_wp2_with fail
          go_ret
          exact ⟨by rw [Hn.out]; rfl, rfl⟩
        · have hb : ((k : Int) == 0) = false := beq_eq_false_iff_ne.2 (by omega)
          go_wp2_with fail
          go_ret
          exact ⟨by rw [Hn.out]; rfl, rfl⟩
    · by_cases h : 1 ≤ s.size ∧ s.size ≤ 10
      · have Hn := Lib.hid (nameB_true (s := s) ⟨h.1, h.2, fun j hj => hok j (by omega)⟩)
        go_wp2_with (go_at_call 17; refine (sIn_yes _ _ _ _ (by omega) (by omega)).mono ?_; rintro e w' ⟨rfl, rfl⟩)
        go_ret
        exact ⟨by rw [Hn.out]; rfl, rfl⟩
      · have Hn := Lib.hid (nameB_false (s := s) (fun h' => h ⟨h'.1, h'.2.1⟩))
        go_wp2_with (go_at_call 17; refine (sIn_no _ _ _ _ (by omega)).mono ?_; rintro e w' ⟨rfl, rfl⟩)
        go_ret
        exact ⟨by rw [Hn.out]; rfl, rfl⟩

end Go.Proofs.YtllddjmcemcdhaaGreat

namespace Go.Proofs.YtllddjmcemcdhaaGreat
open Go.ChangeShapes Go.WideShapes Go.ChangeAt Go.RowKit

/-- The text of one byte. -/
theorem conv1 (W : World) (n : Int) : (convert 169 9 (.slice (some ⟨W.heap.size, 0, none⟩) 1 1)).run Tryz.prog (W.alloc (.cells #[.int .u8 n] 5)) =
    .ok (.string (strOfNums [n])) (W.alloc (.cells #[.int .u8 n] 5)) :=
  run_convert_bytes_arg _ 169 5 Tryz.underlying169 Tryz.underlying5 W.heap.size 0 1 1 [n] rfl (fun i hi => by
    obtain rfl : i = 0 := by omega
    simp) 9 Tryz.underlying9

/-- NameBytes of a name, as the walk spells it. -/
def nbytes (s : ByteArray) : ByteArray := strOfNums [(s.size : Int)] ++ s

end Go.Proofs.YtllddjmcemcdhaaGreat

namespace Go.Proofs.YtllddjmcemcdhaaGreat

theorem byteAt_le (b : ByteArray) (k : Nat) : 0 ≤ byteAt b k ∧ byteAt b k ≤ 255 := by
  unfold byteAt
  split
  · have := (b[k]).toNat_lt; omega
  · omega

theorem data_byte (s : ByteArray) (k : Nat) (h : k < s.data.size) : ((s.data[k]!).toNat : Int) = byteAt s k := by
  unfold byteAt
  rw [dif_pos (show k < s.size from h)]
  rw [getElem!_pos s.data k h]
  rfl

theorem byteAt_extract (s : ByteArray) (a b k : Nat) (hb : b ≤ s.size) (hk : a + k < b) : byteAt (s.extract a b) k = byteAt s (a + k) := by
  have hsz : (s.extract a b).size = b - a := by rw [ByteArray.size_extract]; omega
  unfold byteAt
  rw [dif_pos (by omega), dif_pos (by omega)]
  congr 2
  first
    | exact ByteArray.getElem_extract ..
    | (simp only [ByteArray.getElem_eq_getElem_data, ByteArray.data_extract, Array.getElem_extract])
    | simp [ByteArray.getElem_extract]

end Go.Proofs.YtllddjmcemcdhaaGreat
