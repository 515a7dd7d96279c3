/-
  What is proved: contracts of LineOf of the program and of its model, and the walk of its law. No condition beside what each theorem states.
-/
import Derived.Test.YtieglffokmcafaaName
import Derived.Test.YtieglffokmcafaaShelf
namespace Go.Proofs.Ytieglffokmcafaa
open Go.ChangeShapes Go.WideShapes Go.ChangeAt Go.RowKit

/-- How many bytes 10 are among the first k. -/
def nlCount (s : ByteArray) : Nat → Nat
  | 0 => 0
  | k + 1 => nlCount s k + (if byteAt s k = 10 then 1 else 0)
/-- The place behind the last byte 10 among the first k. -/
def nlFrom (s : ByteArray) : Nat → Nat
  | 0 => 0
  | k + 1 => if byteAt s k = 10 then k + 1 else nlFrom s k
theorem nlCount_le (s : ByteArray) (k : Nat) : nlCount s k ≤ k := by
  induction k with
  | zero => exact Nat.le_refl _
  | succ k ih => unfold nlCount; split <;> omega
theorem nlFrom_le (s : ByteArray) (k : Nat) : nlFrom s k ≤ k := by
  induction k with
  | zero => exact Nat.le_refl _
  | succ k ih => unfold nlFrom; split <;> omega

theorem data_byte (s : ByteArray) (k : Nat) (h : k < s.data.size) : ((s.data[k]!).toNat : Int) = byteAt s k := by
  unfold byteAt
  rw [dif_pos (show k < s.size from h)]
  rw [getElem!_pos s.data k h]
  rfl

theorem byteAt_extract (s : ByteArray) (a b k : Nat) (hb : b ≤ s.size) (hk : a + k < b) : byteAt (s.extract a b) k = byteAt s (a + k) := by
  have hsz : (s.extract a b).size = b - a := by rw [ByteArray.size_extract]; omega
  unfold byteAt
  rw [dif_pos (by omega), dif_pos (by omega)]
  congr 2
  first
    | exact ByteArray.getElem_extract ..
    | (simp only [ByteArray.getElem_eq_getElem_data, ByteArray.data_extract, Array.getElem_extract])
    | simp [ByteArray.getElem_extract]

theorem lastIdx_from (s : ByteArray) (k j : Nat) (hk : k ≤ s.size) (hj : j ≤ k) : Lib.lastIdx (s.extract 0 k) 10 j + 1 = (nlFrom s j : Int) := by
  have hsz : (s.extract 0 k).size = k := by rw [ByteArray.size_extract]; omega
  induction j with
  | zero => rfl
  | succ j ih =>
    have e := data_byte (s.extract 0 k) j (by show j < (s.extract 0 k).size; omega)
    rw [byteAt_extract s 0 k j hk (by omega), Nat.zero_add] at e
    unfold Lib.lastIdx nlFrom
    rw [e]
    split
    · rfl
    · exact ih (by omega)

theorem lastIndex_from (s : ByteArray) (k : Nat) (hk : k ≤ s.size) : Lib.lastIndexByte (s.extract 0 k) 10 = (nlFrom s k : Int) - 1 := by
  have hsz : (s.extract 0 k).size = k := by rw [ByteArray.size_extract]; omega
  have := lastIdx_from s k k hk (Nat.le_refl _)
  unfold Lib.lastIndexByte
  rw [hsz]
  omega

theorem take_list (s : ByteArray) (k : Nat) : (s.extract 0 k).data.toList = s.data.toList.take k := by
  simp [ByteArray.data_extract]

theorem count_to (s : ByteArray) (k : Nat) (hk : k ≤ s.size) : Lib.countByte (s.extract 0 k).data.toList 10 = nlCount s k := by
  unfold Lib.countByte
  rw [take_list]
  induction k with
  | zero => rfl
  | succ k ih =>
    have hk' : k < s.data.toList.length := by simpa using (show k < s.data.size from hk)
    rw [List.take_succ_eq_append_getElem hk', List.count_append, ih (by omega), show nlCount s (k + 1) = nlCount s k + (if byteAt s k = 10 then 1 else 0) from rfl]
    congr 1
    have e : byteAt s k = ((s.data.toList[k]).toNat : Int) := by
      unfold byteAt
      rw [dif_pos (by omega)]
      simp
      rfl
    rw [e]
    generalize s.data.toList[k] = x
    rw [List.count_singleton]
    by_cases h : x = 10
    · subst h; rfl
    · rw [if_neg (by simpa using h), if_neg (fun h' => h (UInt8.toNat_inj.1 (show x.toNat = 10 by omega)))]

set_option maxHeartbeats 1000000 in
theorem iLineOf_yes (s : ByteArray) (k : Nat) (w : World) (h1 : s.size ≤ 1200) (hk : k ≤ s.size) :
    Calls Try.prog 8 #[.string s, .int .i64 k] w fun e w' => e = .returned (.tuple #[.int .i64 ((nlCount s k : Int) + 1), .int .i64 ((k : Int) - nlFrom s k), .bool true]) ∧ w = w' := by
  have hsz : (s.extract 0 k).size < 4611686018427387904 := by rw [ByteArray.size_extract]; omega
  have ec := count_to s k hk
  have ef := lastIndex_from s k hk
  have lc := nlCount_le s k
  have lf := nlFrom_le s k
  generalize nlCount s k = c at *
  generalize nlFrom s k = f at *
  have hf := hsz
  generalize hx : s.extract 0 k = x at *
  have d1 : decide (1200 < (s.size : Int)) = false := by simp; omega
  have d2 : decide ((k : Int) < 0) = false := decide_eq_false (by omega)
  have d3 : decide ((s.size : Int) < (k : Int)) = false := by simp; omega
  have hsl : ∀ W : World, (Instr.slice 9 (.string s) none (some (.int .i64 (k : Int))) none).run Try.prog W = .ok (.string x) W := by
    intro W
    have := run_slice_string_h (P := Try.prog) W 9 s Try.underlying9 .i64 (k : Int) (by omega) (by omega)
    rw [this, ← hx]; rfl
  go_enter Try.func8, Try.ntmps8
  go_wp2_with (first | (go_at_call 15; refine (Try.strings_LastIndexByte _ _ hsz _).mono ?_; rintro e w' ⟨rfl, rfl⟩) | (go_at_call 16; refine (Try.strings_Count_one _ _ _).mono ?_; rintro e w' ⟨rfl, rfl⟩))
  go_ret3
  exact ⟨rfl, rfl⟩

set_option maxHeartbeats 1000000 in
theorem iLineOf_no (s : ByteArray) (a : Int) (w : World) (h : 1200 < s.size ∨ a < 0 ∨ (s.size : Int) < a) :
    Calls Try.prog 8 #[.string s, .int .i64 a] w fun e w' => e = .returned (.tuple #[.int .i64 0, .int .i64 0, .bool false]) ∧ w = w' := by
  cases d1 : decide (1200 < (s.size : Int))
  · cases d2 : decide (a < 0)
    · have d3 : decide ((s.size : Int) < a) = true := by simp at d1 d2 ⊢; omega
      go_enter Try.func8, Try.ntmps8
      go_wp2_with fail
      go_ret3
      exact ⟨rfl, rfl⟩
    · go_enter Try.func8, Try.ntmps8
      go_wp2_with fail
      go_ret3
      exact ⟨rfl, rfl⟩
  · go_enter Try.func8, Try.ntmps8
    go_wp2_with fail
    go_ret3
    exact ⟨rfl, rfl⟩

set_option maxHeartbeats 1000000 in
theorem sLineOf_no (s : ByteArray) (a : Int) (w : World) (h : 1200 < s.size ∨ a < 0 ∨ (s.size : Int) < a) :
    Calls Try.prog 9 #[.string s, .int .i64 a] w fun e w' => e = .returned (.tuple #[.int .i64 0, .int .i64 0, .bool false]) ∧ w = w' := by
  cases d1 : decide (1200 < (s.size : Int))
  · have d2 : a < 0 ∨ (s.size : Int) < a := by simp at d1; omega
    go_enter Try.func9, Try.ntmps9
    go_wp2_with (go_at_call 17; refine (sIn_no _ _ _ _ d2).mono ?_; rintro e w' ⟨rfl, rfl⟩)
    go_ret3
    exact ⟨rfl, rfl⟩
  · go_enter Try.func9, Try.ntmps9
    go_wp2_with fail
    go_ret3
    exact ⟨rfl, rfl⟩

set_option maxHeartbeats 1000000 in
theorem sLineOf_yes (s : ByteArray) (k : Nat) (w : World) (h1 : s.size ≤ 1200) (hk : k ≤ s.size) :
    Calls Try.prog 9 #[.string s, .int .i64 k] w fun e w' => e = .returned (.tuple #[.int .i64 ((nlCount s k : Int) + 1), .int .i64 ((k : Int) - nlFrom s k), .bool true]) ∧ w = w' := by
  have d1 : decide (1200 < (s.size : Int)) = false := by simp; omega
  go_enter Try.func9, Try.ntmps9
  go_wp2_with (go_at_call 17; refine (sIn_yes _ _ _ _ (by omega) (by omega)).mono ?_; rintro e w' ⟨rfl, rfl⟩)
  go_loop [7, 8, 9] (fun l f i => ∃ j : Nat, j ≤ k ∧ i = .int .i64 j ∧ l = .int .i64 ((nlCount s j : Int) + 1) ∧ f = .int .i64 (nlFrom s j)) (fun _ _ i => k - (intOf i).toNat)
  case atStart => exact ⟨0, by omega, rfl, rfl, rfl⟩
  case round =>
    obtain ⟨j, hj, rfl, rfl, rfl⟩ := hrel
    have lc := nlCount_le s j
    have lf := nlFrom_le s j
    by_cases hlt : j < k
    · have hjs : j < s.size := by omega
      have ek := byteAt_get s j hjs
      by_cases hc : byteAt s j = 10
      · have e1 := Lib.hid (show nlCount s (j + 1) = nlCount s j + 1 by simp [nlCount, hc])
        have e2 := Lib.hid (show nlFrom s (j + 1) = j + 1 by simp [nlFrom, hc])
        rw [hc] at ek
        clear hc
        generalize nlCount s j = c at *
        generalize nlFrom s j = f at *
        go_wp2_with fail
        go_round
        case rel => exact ⟨j + 1, by omega, by go_num, by rw [e1.out]; go_num, by rw [e2.out]; go_num⟩
        case measure => simp [intOf]; omega
      · have e1 := Lib.hid (show nlCount s (j + 1) = nlCount s j by simp [nlCount, hc])
        have e2 := Lib.hid (show nlFrom s (j + 1) = nlFrom s j by simp [nlFrom, hc])
        have hb : (byteAt s j == 10) = false := beq_eq_false_iff_ne.2 hc
        rw [← ek] at hb
        clear hc ek
        generalize nlCount s j = c at *
        generalize nlFrom s j = f at *
        go_wp2_with fail
        go_round
        case rel => exact ⟨j + 1, by omega, by go_num, by rw [e1.out], by rw [e2.out]⟩
        case measure => simp [intOf]; omega
    · obtain rfl : j = k := by omega
      go_wp2_with fail
      go_ret3
      exact ⟨rfl, rfl⟩

theorem lineOf_both (s : ByteArray) (a : Int) : ∃ (l f : Int) (ok : Bool),
    (∀ w : World, Calls Try.prog 9 #[.string s, .int .i64 a] w fun e w' => e = .returned (.tuple #[.int .i64 l, .int .i64 f, .bool ok]) ∧ w = w') ∧
    (∀ w : World, Calls Try.prog 8 #[.string s, .int .i64 a] w fun e w' => e = .returned (.tuple #[.int .i64 l, .int .i64 f, .bool ok]) ∧ w = w') ∧
    (ok = true → ∃ k : Nat, a = k ∧ k ≤ s.size ∧ s.size ≤ 1200 ∧ l = (nlCount s k : Int) + 1 ∧ f = (k : Int) - nlFrom s k) := by
  by_cases h : 1200 < s.size ∨ a < 0 ∨ (s.size : Int) < a
  · exact ⟨0, 0, false, fun w => sLineOf_no s a w h, fun w => iLineOf_no s a w h, fun h => by cases h⟩
  · obtain ⟨k, rfl⟩ := Int.eq_ofNat_of_zero_le (show 0 ≤ a by omega)
    exact ⟨_, _, true, fun w => sLineOf_yes s k w (by omega) (by omega), fun w => iLineOf_yes s k w (by omega) (by omega), fun _ => ⟨k, rfl, by omega, by omega, rfl, rfl⟩⟩

-- shell: FnExactLineOf
set_option maxHeartbeats 1000000 in
theorem law_FnExactLineOf (s : ByteArray) (a : Int) (w : World) (_ : s.size ≤ maxLen) (_ : (Lit.int .i64 a).wf = true) :
    Calls Try.prog 5 #[.string s, .int .i64 a] w fun e w' => e = .returned (.bool true) ∧ Below w.heap.size w w' := by
  by_cases h : 1048576 < s.size
  · go_enter Try.func5, Try.ntmps5
    go_wp2_with fail
    go_ret
    exact ⟨rfl, Below.refl _ _⟩
  · obtain ⟨l, f, ok, hS, hI, hok⟩ := lineOf_both s a
    have HS := Lib.hid hS
    have HI := Lib.hid hI
    clear hS hI hok
    go_enter Try.func5, Try.ntmps5
    go_wp2_with fail
    refine (HS.out _).mono ?_
    rintro e w1 ⟨rfl, rfl⟩
    go_wp2_with fail
    refine (HI.out _).mono ?_
    rintro e w2 ⟨rfl, rfl⟩
    go_wp2_with fail
    go_ret
    exact ⟨rfl, Below.refl _ _⟩

end Go.Proofs.Ytieglffokmcafaa
