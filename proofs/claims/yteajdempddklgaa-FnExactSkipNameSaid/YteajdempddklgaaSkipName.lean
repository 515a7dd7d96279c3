
/-
  What is proved: the contracts of strings.HasPrefix at the head of a file and of both SkipName, and the walk of its law. No condition beside what each theorem states.
-/
import Derived.Test.YteajdempddklgaaReadName2
namespace Go.Proofs.Yteajdempddklgaa
open Go.ChangeShapes Go.WideShapes Go.ChangeAt Go.RowKit

def osB : ByteArray := { data := #[79, 83, 49] }
/-- The bytes begin with the head of a file. -/
def headP (b : ByteArray) : Prop := 3 ≤ b.size ∧ ((b.extract 0 3).toList == osB.toList) = true
def headB (b : ByteArray) : Bool := decide (3 ≤ b.size) && ((b.extract 0 3).toList == osB.toList)
theorem cutHead (b : ByteArray) (h : 3 ≤ b.size) (W : World) : (Instr.slice 9 (.string b) none (some (.int .i64 3)) none).run Try.prog W = .ok (.string (b.extract 0 3)) W := by
  have := run_slice_string_h (P := Try.prog) W 9 b Try.underlying9 .i64 3 (by omega) (by omega)
  rw [this]
  rfl


theorem osSize : osB.size = 3 := rfl
set_option maxHeartbeats 1000000 in
theorem iHeadLite (b : ByteArray) (w : World) : Calls Try.prog 36 #[.string b, .string osB] w fun e w' => e = .returned (.bool (headB b)) ∧ w' = w := by
  by_cases h : 3 ≤ b.size
  · have hd : osB.size ≤ b.size := h
    have Hq := Lib.hid (show headB b = ((b.extract 0 osB.size).toList == osB.toList) by unfold headB; rw [decide_eq_true h, osSize]; rfl)
    go_enter Try.func36, Try.ntmps36
    go_wp2_with fail
    go_ret
    exact ⟨by rw [Hq.out]; rfl, rfl⟩
  · have hd : ¬ osB.size ≤ b.size := h
    have Hq := Lib.hid (show headB b = false by unfold headB; rw [decide_eq_false h]; rfl)
    go_enter Try.func36, Try.ntmps36
    go_wp2_with fail
    go_ret
    exact ⟨by rw [Hq.out]; rfl, rfl⟩
theorem iHead (b : ByteArray) (w : World) : Calls Try.prog 19 #[.string b, .string osB] w fun e w' => e = .returned (.bool (headB b)) ∧ w' = w := by
  go_enter Try.func19, Try.ntmps19
  go_wp2_with (go_at_call 36; refine (iHeadLite _ _).mono ?_; rintro e w' ⟨rfl, rfl⟩)
  go_ret
  exact ⟨rfl, rfl⟩
theorem headAs {b : ByteArray} {q : Bool} (h : headB b = q) (w : World) : Calls Try.prog 19 #[.string b, .string osB] w fun e w' => e = .returned (.bool q) ∧ w' = w := h ▸ iHead b w

def skipAns (b : ByteArray) (x : ByteArray) (ok : Bool) : Prop := (∃ m, headB b = true ∧ b.size ≤ 3000 ∧ isNameAt b 3 x m ∧ ok = true) ∨ ((headB b = false ∨ 3000 < b.size ∨ ¬ ∃ x m, isNameAt b 3 x m) ∧ x = ByteArray.empty ∧ ok = false)
theorem headB_size {b : ByteArray} (h : headB b = true) : 3 ≤ b.size := by
  unfold headB at h
  simp at h
  exact h.1
set_option maxHeartbeats 2000000 in
theorem iSkipName (b : ByteArray) (x : ByteArray) (ok : Bool) (w : World) (h : skipAns b x ok) : Calls Try.prog 7 #[.string b] w fun e w' => e = .returned (.tuple #[.string x, .bool ok]) ∧ Below w.heap.size w w' := by
  cases hq : headB b
  · have H := Lib.hid (headAs hq)
    obtain ⟨rfl, rfl⟩ : x = ByteArray.empty ∧ ok = false := by
      rcases h with ⟨m, h1, _⟩ | ⟨_, h2, h3⟩
      · rw [hq] at h1; cases h1
      · exact ⟨h2, h3⟩
    go_enter Try.func7, Try.ntmps7
    go_wp2_with (go_at_call 19; refine (H.out _).mono ?_; rintro e w' ⟨rfl, rfl⟩)
    go_ret2
    exact ⟨rfl, Below.refl _ _⟩
  · have H := Lib.hid (headAs hq)
    have hs := headB_size hq
    have hr : ∀ w, ∃ m : Int, Calls Try.prog 20 #[.string b, .int .i64 3] w fun e w' => e = .returned (.tuple #[.string x, .int .i64 m, .bool ok]) ∧ Below w.heap.size w w' := by
      intro w
      rcases h with ⟨m, h1, h2, h3, rfl⟩ | ⟨h1, rfl, rfl⟩
      · obtain ⟨n, g1, g2, g3, rfl, g5, rfl⟩ := h3
        exact ⟨_, iReadName_yes b 3 n w h2 g1 g2 g3 g5⟩
      · refine ⟨0, ?_⟩
        by_cases hl : 3000 < b.size
        · exact (iReadName_out b 3 w (.inl hl)).mono (by rintro e w' ⟨rfl, rfl⟩; exact ⟨rfl, Below.refl _ _⟩)
        · refine (iReadName_fault b 3 w (by omega) hs ?_).mono (by rintro e w' ⟨rfl, rfl⟩; exact ⟨rfl, Below.refl _ _⟩)
          rcases h1 with h1 | h1 | h1
          · rw [hq] at h1; cases h1
          · exact absurd h1 hl
          · exact h1
    obtain ⟨m, hr⟩ := hr w
    have Hr := Lib.hid hr
    clear hr h hq
    go_enter Try.func7, Try.ntmps7
    go_wp2_with (first | (go_at_call 19; refine (H.out _).mono ?_; rintro e w' ⟨rfl, rfl⟩) | (go_at_call 20; refine Hr.out.mono ?_; rintro e w1 ⟨rfl, hb1⟩))
    go_ret2
    exact ⟨rfl, hb1⟩
theorem head_cut {b : ByteArray} (h3 : 3 ≤ b.size) {q : Bool} (h : headB b = q) : ((b.extract 0 3).toList == [79, 83, 49]) = q := by
  have e : osB.toList = [79, 83, 49] := by rw [ByteArray.toList_eq]; rfl
  unfold headB at h
  rw [decide_eq_true h3, e] at h
  exact h
set_option maxHeartbeats 2000000 in
theorem sSkipName (b : ByteArray) (x : ByteArray) (ok : Bool) (w : World) (h : skipAns b x ok) : Calls Try.prog 6 #[.string b] w fun e w' => e = .returned (.tuple #[.string x, .bool ok]) ∧ Below w.heap.size w w' := by
  by_cases hl : 3000 < b.size
  · obtain ⟨rfl, rfl⟩ : x = ByteArray.empty ∧ ok = false := by
      rcases h with ⟨m, _, h1, _⟩ | ⟨_, h2, h3⟩
      · omega
      · exact ⟨h2, h3⟩
    go_enter Try.func6, Try.ntmps6
    go_wp2_with fail
    go_ret2
    exact ⟨rfl, Below.refl _ _⟩
  by_cases hs : b.size < 3
  · obtain ⟨rfl, rfl⟩ : x = ByteArray.empty ∧ ok = false := by
      rcases h with ⟨m, h1, _⟩ | ⟨_, h2, h3⟩
      · have := headB_size h1; omega
      · exact ⟨h2, h3⟩
    go_enter Try.func6, Try.ntmps6
    go_wp2_with fail
    go_ret2
    exact ⟨rfl, Below.refl _ _⟩
  have hcut := fun W => cutHead b (by omega) W
  have d1 : decide (3000 < (b.size : Int)) = false := by simp; omega
  have d2 : decide ((b.size : Int) < 3) = false := by simp; omega
  cases hq : headB b
  · have hc := head_cut (by omega) hq
    obtain ⟨rfl, rfl⟩ : x = ByteArray.empty ∧ ok = false := by
      rcases h with ⟨m, h1, _⟩ | ⟨_, h2, h3⟩
      · rw [hq] at h1; cases h1
      · exact ⟨h2, h3⟩
    go_enter Try.func6, Try.ntmps6
    go_wp2_with fail
    go_ret2
    exact ⟨rfl, Below.refl _ _⟩
  · have hc := head_cut (by omega) hq
    by_cases hn : ∃ x m, isNameAt b 3 x m
    · obtain ⟨x', m, hn⟩ := hn
      obtain ⟨rfl, rfl⟩ : x = x' ∧ ok = true := by
        rcases h with ⟨m2, _, _, h1, h2⟩ | ⟨h1 | h1 | h1, _⟩
        · obtain ⟨n, _, g2, _, rfl, _⟩ := h1
          obtain ⟨n', _, k2, _, rfl, _⟩ := hn
          obtain rfl : n = n' := by omega
          exact ⟨rfl, h2⟩
        · rw [hq] at h1; cases h1
        · omega
        · exact absurd ⟨_, _, hn⟩ h1
      clear h hq
      go_enter Try.func6, Try.ntmps6
      go_wp2_with fail
      refine (sName_yes _ 3 m b x _ (by omega) (Box.new w _ _) hn).mono ?_
      rintro e w1 ⟨rfl, hr1, ho1⟩
      have c2 := hr1.cell 2
      simp at c2
      have Ho := Lib.hid ((((Below.refl w.heap.size w).alloc (Nat.le_refl _) _).trans (ho1.below (Nat.le_refl _) (by simp))))
      clear hr1 ho1
      go_wp2_with fail
      go_ret2
      exact ⟨rfl, Ho.out⟩
    · obtain ⟨rfl, rfl⟩ : x = ByteArray.empty ∧ ok = false := by
        rcases h with ⟨m2, _, _, h1, h2⟩ | ⟨_, h2, h3⟩
        · exact absurd ⟨_, _, h1⟩ hn
        · exact ⟨h2, h3⟩
      clear h hq
      go_enter Try.func6, Try.ntmps6
      go_wp2_with fail
      refine (sName_fault _ 3 b _ (by omega) (Box.new w _ _) hn).mono ?_
      rintro e w1 ⟨rfl, ⟨k', hr1⟩, ho1⟩
      have c2 := hr1.cell 2
      simp at c2
      have Ho := Lib.hid ((((Below.refl w.heap.size w).alloc (Nat.le_refl _) _).trans (ho1.below (Nat.le_refl _) (by simp))))
      clear hr1 ho1
      go_wp2_with fail
      go_ret2
      exact ⟨rfl, Ho.out⟩
theorem skipAns_ex (b : ByteArray) : ∃ x ok, skipAns b x ok := by
  by_cases h1 : headB b = true
  · by_cases h2 : b.size ≤ 3000
    · by_cases h3 : ∃ x m, isNameAt b 3 x m
      · obtain ⟨x, m, h⟩ := h3
        exact ⟨x, true, .inl ⟨m, h1, h2, h, rfl⟩⟩
      · exact ⟨_, _, .inr ⟨.inr (.inr h3), rfl, rfl⟩⟩
    · exact ⟨_, _, .inr ⟨.inr (.inl (by omega)), rfl, rfl⟩⟩
  · exact ⟨_, _, .inr ⟨.inl (by simpa using h1), rfl, rfl⟩⟩

-- shell: FnExactSkipName
set_option maxHeartbeats 1000000 in
theorem law_FnExactSkipName (b : ByteArray) (w : World) (_ : b.size ≤ maxLen) :
    Calls Try.prog 3 #[.string b] w fun e w' => e = .returned (.bool true) ∧ Below w.heap.size w w' := by
  by_cases h : 1048576 < b.size
  · go_enter Try.func3, Try.ntmps3
    go_wp2_with fail
    go_ret
    exact ⟨rfl, Below.refl _ _⟩
  · obtain ⟨x, ok, ha⟩ := skipAns_ex b
    have HS := Lib.hid (fun w => sSkipName b x ok w ha)
    have HI := Lib.hid (fun w => iSkipName b x ok w ha)
    clear ha
    go_enter Try.func3, Try.ntmps3
    go_wp2_with fail
    refine (HS.out _).mono ?_
    rintro e w1 ⟨rfl, hb1⟩
    go_wp2_with fail
    refine (HI.out _).mono ?_
    rintro e w2 ⟨rfl, hb2⟩
    go_wp2_with fail
    go_ret
    exact ⟨rfl, hb1.trans (hb2.mono hb1.size)⟩
end Go.Proofs.Yteajdempddklgaa
