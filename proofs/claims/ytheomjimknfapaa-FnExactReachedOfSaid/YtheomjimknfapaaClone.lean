
/-
  What is proved: a contract of slices.Clone for numbers. No condition beside what each theorem states.
-/
import Derived.Test.YtheomjimknfapaaPushAll
import Derived.Lib.LazyBuf
namespace Go.Proofs.Ytheomjimknfapaa
open Go.ChangeShapes Go.WideShapes Go.ChangeAt Go.RowKit

theorem eqlSlNil (w : World) (a : Option Addr) (n c : Nat) : (binOp .eql 38 (.slice a n c) (.slice none 0 0)).run Try.prog w = .ok (.bool a.isNone) w := run_eql_slice_nil w 38 3 a n c Try.underlying38

set_option maxRecDepth 100000 in
set_option maxHeartbeats 2000000 in
theorem iClone (a : Option Addr) (c : Nat) (l : List Int) (w : World) (hl : l.length ≤ 1048576) (hr : Nums w a l) :
    Calls Try.prog 131 #[.slice a l.length c] w fun e w' => ∃ v, e = .returned v ∧ OwnInts w' w.heap.size v l ∧ Below w.heap.size w w' := by
  have Hr := Lib.hid (hr.below ((Below.refl w.heap.size w).alloc (Nat.le_refl _) (.cells #[] 3)))
  cases a with
  | none =>
    have hm : l = [] := by
      cases l with
      | nil => rfl
      | cons y m =>
        obtain ⟨b, o', e, _⟩ := hr 0 (by simp)
        cases e
    subst hm
    clear hr
    go_enter Try.func131, Try.ntmps131
    go_wp2_with fail
    rw [eqlSlNil]
    simp only [Result.andThen]
    rw [Oper.upon_value]
    go_wp2_with fail
    go_ret
    exact ⟨_, rfl, OwnInts.nil, Below.refl _ _⟩
  | some ad =>
    clear hr
    go_enter Try.func131, Try.ntmps131
    go_wp2_with fail
    rw [eqlSlNil]
    simp only [Result.andThen]
    rw [Oper.upon_value]
    go_wp2_with (at_builtin; refine wpList_pushAll rfl (.tmp 5) (.tmp 6) rfl w.heap.size _ _ [] rfl (OwnInts.made w (Nat.le_refl _)) l _ _ rfl Hr.out (by simp; omega) (by simp) ?_)
    intro v1 w1 hown1 hg1 hlt1
    have Ho1 := Lib.hid hown1
    have Hb1 := Lib.hid (((Below.refl w.heap.size w).alloc (Nat.le_refl _) _).grown hg1 (by simp) (fun k hk => (hlt1 k hk).1))
    clear hown1 hg1 hlt1
    go_wp2_with fail
    go_ret
    exact ⟨_, rfl, Ho1.out, Hb1.out⟩
end Go.Proofs.Ytheomjimknfapaa
