/-
  What is proved: contracts of NameBytes of the program and of its model, and from them the walk of its law. No condition beside what each theorem states.
-/
import Derived.Test.YtplmpjdlgooffaaName
import Derived.Laws.BytesArg
namespace Go.Proofs.Ytplmpjdlgooffaa
open Go.ChangeShapes Go.WideShapes Go.ChangeAt Go.RowKit

/-- The text of one byte. -/
theorem conv1 (W : World) (n : Int) : (convert 22 9 (.slice (some ⟨W.heap.size, 0, none⟩) 1 1)).run Try.prog (W.alloc (.cells #[.int .u8 n] 5)) =
    .ok (.string (strOfNums [n])) (W.alloc (.cells #[.int .u8 n] 5)) :=
  run_convert_bytes_arg _ 22 5 Try.underlying22 Try.underlying5 W.heap.size 0 1 1 [n] rfl (fun i hi => by
    obtain rfl : i = 0 := by omega
    simp) 9 Try.underlying9

/-- NameBytes of a name, as the walk spells it. -/
def nbytes (s : ByteArray) : ByteArray := strOfNums [(s.size : Int)] ++ s

set_option maxHeartbeats 1000000 in
theorem iNameBytes_yes (s : ByteArray) (w : World) (hs : s.size ≤ maxLen) (hn : nameP s) : Calls Try.prog 29 #[.string s] w fun e w' => e = .returned (.tuple #[.string (nbytes s), .bool true]) ∧ Below w.heap.size w w' := by
  have h1 := hn.1
  have h2 := hn.2.1
  have hb := nameB_true hn
  have kc := conv1
  have hz : ¬ 9223372036854775807 < (strOfNums [(s.size : Int)]).size + s.size := by rw [strOfNums_size]; simp; omega
  go_enter Try.func29, Try.ntmps29
  go_wp2_with (go_at_call 31; refine (iGoodName _ _ hs).mono ?_; rintro e w' ⟨rfl, rfl⟩)
  go_ret2
  refine ⟨rfl, ?_⟩
  go_grown

set_option maxHeartbeats 1000000 in
theorem iNameBytes_no (s : ByteArray) (w : World) (hs : s.size ≤ maxLen) (hb : nameB s = false) : Calls Try.prog 29 #[.string s] w fun e w' => e = .returned (.tuple #[.string ByteArray.empty, .bool false]) ∧ w = w' := by
  go_enter Try.func29, Try.ntmps29
  go_wp2_with (go_at_call 31; refine (iGoodName _ _ hs).mono ?_; rintro e w' ⟨rfl, rfl⟩)
  go_ret2
  exact ⟨rfl, rfl⟩

set_option maxHeartbeats 1000000 in
theorem sl1NameBytes (s : ByteArray) (w : World) (h2 : s.size ≤ 10) : Calls Try.prog 62 #[.string s] w fun e w' => e = .returned (.string (nbytes s)) ∧ Below w.heap.size w w' := by
  have kc := conv1
  have hz : ¬ 9223372036854775807 < (strOfNums [(s.size : Int)]).size + s.size := by rw [strOfNums_size]; simp; omega
  go_enter Try.func62, Try.ntmps62
  go_wp2_with fail
  go_ret
  refine ⟨rfl, ?_⟩
  go_grown

set_option maxHeartbeats 1000000 in
theorem sNameBytes_yes (s : ByteArray) (w : World) (hs : s.size ≤ maxLen) (hn : nameP s) : Calls Try.prog 30 #[.string s] w fun e w' => e = .returned (.tuple #[.string (nbytes s), .bool true]) ∧ Below w.heap.size w w' := by
  have h1 := hn.1
  have h2 := hn.2.1
  have hb := nameB_true hn
  go_enter Try.func30, Try.ntmps30
  go_wp2_with (first | (go_at_call 61; refine (sl1Name _ _ hs).mono ?_; rintro e w' ⟨rfl, rfl⟩) | (go_at_call 62; refine (sl1NameBytes _ _ h2).mono ?_; rintro e w' ⟨rfl, hbel⟩))
  go_ret2
  exact ⟨rfl, hbel⟩

set_option maxHeartbeats 1000000 in
theorem sNameBytes_no (s : ByteArray) (w : World) (hs : s.size ≤ maxLen) (hb : nameB s = false) : Calls Try.prog 30 #[.string s] w fun e w' => e = .returned (.tuple #[.string ByteArray.empty, .bool false]) ∧ w = w' := by
  go_enter Try.func30, Try.ntmps30
  go_wp2_with (go_at_call 61; refine (sl1Name _ _ hs).mono ?_; rintro e w' ⟨rfl, rfl⟩)
  go_ret2
  exact ⟨rfl, rfl⟩

-- shell: FnExactNameBytes
theorem law_FnExactNameBytes (s : ByteArray) (w : World) (hs : s.size ≤ maxLen) :
    Calls Try.prog 8 #[.string s] w fun e w' => e = .returned (.bool true) ∧ Below w.heap.size w w' := by
  by_cases h : 1048576 < s.size
  · go_enter Try.func8, Try.ntmps8
    go_wp2_with fail
    go_ret
    exact ⟨rfl, Below.refl _ _⟩
  · by_cases hn : nameP s
    · go_enter Try.func8, Try.ntmps8
      go_wp2_with fail
      refine (sNameBytes_yes _ _ hs hn).mono ?_
      rintro e w1 ⟨rfl, hb1⟩
      go_wp2_with fail
      refine (iNameBytes_yes _ _ hs hn).mono ?_
      rintro e w2 ⟨rfl, hb2⟩
      go_wp2_with fail
      go_ret
      exact ⟨rfl, hb1.trans (hb2.mono hb1.size)⟩
    · have hf := nameB_false hn
      go_enter Try.func8, Try.ntmps8
      go_wp2_with (first | (go_at_call 30; refine (sNameBytes_no _ _ hs hf).mono ?_; rintro e w' ⟨rfl, rfl⟩) | (go_at_call 29; refine (iNameBytes_no _ _ hs hf).mono ?_; rintro e w' ⟨rfl, rfl⟩))
      go_ret
      exact ⟨rfl, Below.refl _ _⟩

end Go.Proofs.Ytplmpjdlgooffaa
