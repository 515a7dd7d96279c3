/-
  What is proved: contracts of the model's ReadName, and the walk of ReadName's law. No condition beside what each theorem states.
-/
import Derived.Test.YtplmpjdlgooffaaReadName
namespace Go.Proofs.Ytplmpjdlgooffaa
open Go.ChangeShapes Go.WideShapes Go.ChangeAt Go.RowKit

theorem sName_yes (g k m : Nat) (b x : ByteArray) (w : World) (hb : b.size ≤ 3000) (hr : Box w g 69 (rd b k false)) (h : isNameAt b k x m) :
    Calls Try.prog 66 #[.pointer (some ⟨g, 0, none⟩)] w fun e w' => e = .returned (.string x) ∧ Box w' g 69 (rd b m false) ∧ Only g w w' := by
  obtain ⟨n, h1, h2, h3, rfl, h5, rfl⟩ := h
  exact sName_ok g k n b w hb hr h1 h2 h3 h5

set_option maxHeartbeats 2000000 in
theorem sReadName_yes (b : ByteArray) (k : Nat) (x : ByteArray) (m : Nat) (w : World) (hb : b.size ≤ 3000) (hk : k ≤ b.size) (h : isNameAt b k x m) :
    Calls Try.prog 34 #[.string b, .int .i64 k] w fun e w' => e = .returned (.tuple #[.string x, .int .i64 m, .bool true]) ∧ Below w.heap.size w w' := by
  go_enter Try.func34, Try.ntmps34
  go_wp2_with (go_at_call 56; refine (sPlace_yes _ _ _ hb (by omega) (by omega)).mono ?_; rintro e w' ⟨rfl, rfl⟩)
  refine (sName_yes _ k m b x _ hb (Box.new w _ _) h).mono ?_
  rintro e w1 ⟨rfl, hr1, ho1⟩
  have c1 := hr1.cell 1
  have c2 := hr1.cell 2
  simp at c1 c2
  have Ho := Lib.hid ((((Below.refl w.heap.size w).alloc (Nat.le_refl _) _).trans (ho1.below (Nat.le_refl _) (by simp))))
  clear hr1 ho1
  go_wp2_with fail
  go_quiet (fail)
  go_wp2_with fail
  go_ret3
  exact ⟨rfl, belowN Ho.out _⟩

set_option maxHeartbeats 2000000 in
theorem sReadName_fault (b : ByteArray) (k : Nat) (w : World) (hb : b.size ≤ 3000) (hk : k ≤ b.size) (h : ¬ ∃ x m, isNameAt b k x m) :
    Calls Try.prog 34 #[.string b, .int .i64 k] w fun e w' => e = .returned (.tuple #[.string ByteArray.empty, .int .i64 0, .bool false]) ∧ Below w.heap.size w w' := by
  go_enter Try.func34, Try.ntmps34
  go_wp2_with (go_at_call 56; refine (sPlace_yes _ _ _ hb (by omega) (by omega)).mono ?_; rintro e w' ⟨rfl, rfl⟩)
  refine (sName_fault _ k b _ hb (Box.new w _ _) h).mono ?_
  rintro e w1 ⟨rfl, ⟨k', hr1⟩, ho1⟩
  have c2 := hr1.cell 2
  simp at c2
  have Ho := Lib.hid ((((Below.refl w.heap.size w).alloc (Nat.le_refl _) _).trans (ho1.below (Nat.le_refl _) (by simp))))
  clear hr1 ho1
  go_wp2_with fail
  go_ret3
  exact ⟨rfl, Ho.out⟩

set_option maxHeartbeats 2000000 in
theorem sReadName_out (b : ByteArray) (a : Int) (w : World) (h : 3000 < b.size ∨ a < 0 ∨ (b.size : Int) < a) :
    Calls Try.prog 34 #[.string b, .int .i64 a] w fun e w' => e = .returned (.tuple #[.string ByteArray.empty, .int .i64 0, .bool false]) ∧ Below w.heap.size w w' := by
  go_enter Try.func34, Try.ntmps34
  go_wp2_with (go_at_call 56; refine (sPlace_no _ _ _ h).mono ?_; rintro e w' ⟨rfl, rfl⟩)
  go_ret3
  exact ⟨rfl, Below.refl _ _⟩

/-! Both answer alike: a form of the contract for each case, with one spelling of the answer. -/
def nameAns (x : ByteArray) (m : Int) (ok : Bool) : Value := .tuple #[.string x, .int .i64 m, .bool ok]

theorem readName_both (b : ByteArray) (a : Int) : ∃ (x : ByteArray) (m : Int) (ok : Bool),
    (∀ w : World, Calls Try.prog 34 #[.string b, .int .i64 a] w fun e w' => e = .returned (.tuple #[.string x, .int .i64 m, .bool ok]) ∧ Below w.heap.size w w') ∧
    (∀ w : World, Calls Try.prog 32 #[.string b, .int .i64 a] w fun e w' => e = .returned (.tuple #[.string x, .int .i64 m, .bool ok]) ∧ Below w.heap.size w w') := by
  by_cases h : 3000 < b.size ∨ a < 0 ∨ (b.size : Int) < a
  · refine ⟨ByteArray.empty, 0, false, fun w => sReadName_out b a w h, fun w => (iReadName_out b a w h).mono ?_⟩
    rintro e w' ⟨rfl, rfl⟩
    exact ⟨rfl, Below.refl _ _⟩
  · obtain ⟨k, rfl⟩ := Int.eq_ofNat_of_zero_le (show 0 ≤ a by omega)
    by_cases hx : ∃ x m, isNameAt b k x m
    · obtain ⟨x, m, hx⟩ := hx
      refine ⟨x, m, true, fun w => sReadName_yes b k x m w (by omega) (by omega) hx, fun w => ?_⟩
      obtain ⟨n, h1, h2, h3, rfl, h5, rfl⟩ := hx
      exact iReadName_yes b k n w (by omega) h1 h2 h3 h5
    · refine ⟨ByteArray.empty, 0, false, fun w => sReadName_fault b k w (by omega) (by omega) hx, fun w => (iReadName_fault b k w (by omega) (by omega) hx).mono ?_⟩
      rintro e w' ⟨rfl, rfl⟩
      exact ⟨rfl, Below.refl _ _⟩

-- shell: FnExactReadName
set_option maxHeartbeats 1000000 in
theorem law_FnExactReadName (b : ByteArray) (a : Int) (w : World) (_ : b.size ≤ maxLen) (_ : (Lit.int .i64 a).wf = true) :
    Calls Try.prog 9 #[.string b, .int .i64 a] w fun e w' => e = .returned (.bool true) ∧ Below w.heap.size w w' := by
  by_cases h : 1048576 < b.size
  · go_enter Try.func9, Try.ntmps9
    go_wp2_with fail
    go_ret
    exact ⟨rfl, Below.refl _ _⟩
  · obtain ⟨x, m, ok, hS, hI⟩ := readName_both b a
    have HS := Lib.hid hS
    have HI := Lib.hid hI
    clear hS hI
    go_enter Try.func9, Try.ntmps9
    go_wp2_with fail
    refine (HS.out _).mono ?_
    rintro e w1 ⟨rfl, hb1⟩
    go_wp2_with fail
    refine (HI.out _).mono ?_
    rintro e w2 ⟨rfl, hb2⟩
    go_wp2_with fail
    go_ret
    exact ⟨rfl, hb1.trans (hb2.mono hb1.size)⟩

end Go.Proofs.Ytplmpjdlgooffaa
