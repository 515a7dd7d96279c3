
/-
  What is proved: IndexRune of a rune beyond ASCII in a text of ASCII alone is -1. No condition beside what the theorem states.
-/
import Derived.Test.YtggpecddhileoaaDoorName
import Derived.Test.YtggpecddhileoaaDoorShelf
import Derived.Test.YtggpecddhileoaaDoorMem
import Derived.Laws.RangeAny
import Derived.Laws.Runes
import Derived.WalkMore
import Derived.Deep.QuietTactic
import Derived.BigQuiet
namespace Go.Proofs.YtggpecddhileoaaDoor
open Go.ChangeShapes Go.WideShapes Go.ChangeAt Go.RowKit

theorem width_pos (s : ByteArray) (pos : Nat) (h : pos < s.size) : 1 ≤ (Utf8.decode s pos).2 := by
  by_cases ha : (s[pos]'h).toNat < 128
  · rw [decode_ascii s pos h ha]
    exact Nat.le_refl _
  · exact (decode_high s pos h (by omega)).2

theorem indexByte_none (l : List UInt8) (c : UInt8) (h : ∀ b ∈ l, b ≠ c) : Lib.indexByte l c = -1 := by
  induction l with
  | nil => rfl
  | cons b l ih =>
    unfold Lib.indexByte
    rw [if_neg (by simpa using h b (List.mem_cons_self ..)), ih (fun x hx => h x (List.mem_cons_of_mem _ hx))]
    rfl

theorem quietW {P : Program} {f : FuncId} {args : Array Value} {w : World} {n : Nat} {v : Value} (h : Calls P f args (w.drewN n) fun e w' => e = .returned v ∧ w' = w.drewN n) :
    Calls P f args (w.drewN n) fun e w' => e = .returned v ∧ ∃ m, w' = w.drewN m := h.mono fun _ _ ⟨he, hm⟩ => ⟨he, n, hm⟩

theorem encode_last (r : Int) (hv : Lib.validRune r = true) (hr : 128 ≤ r) : ∃ z : ByteArray, Utf8.encode r = z ∧ ∃ m : Nat, z.size = m + 1 ∧ m ≤ 3 ∧ ∃ h : m < z.size, 128 ≤ (z[m]'h).toNat := by
  have hv' : Utf8.valid r = true := by
    unfold Lib.validRune at hv
    unfold Utf8.valid
    simp at hv ⊢
    omega
  obtain ⟨f1, f2, f3⟩ := encode_facts r hv' hr
  refine ⟨_, rfl, (Utf8.encode r).size - 1, by omega, by omega, by omega, f3 (by omega)⟩

set_option maxRecDepth 100000 in
set_option maxHeartbeats 2000000 in
theorem iRune_high (s : ByteArray) (r : Int) (w : World) (hs : ∀ b ∈ s.data.toList, b.toNat < 128) (h4 : 4 ≤ s.size) (hm : s.size ≤ 100) (hr : 128 ≤ r) :
    Calls Tryd.prog 71 #[.string s, .int .i32 r] w fun e w' => e = .returned (.int .i64 (-1)) ∧ Below w.heap.size w w' := by
  have Hs := Lib.hid hs
  clear hs
  have d0 : decide (0 ≤ r) = true := by simp; omega
  have d1 : decide (r < 128) = false := by simp; omega
  by_cases he : r = 65533
  · subst he
    go_enter Tryd.func71, Tryd.ntmps71
    go_wp2_with fail
    go_loopw [4] (fun _ w' => ∃ pos : Nat, w' = w.iter s pos) (fun _ w' => s.size - w'.iterPos w.heap.size)
    case atStart => exact ⟨0, rfl⟩
    case round =>
      obtain ⟨pos, rfl⟩ := hrel
      by_cases hp : pos < s.size
      · have hlt : (s[pos]'hp).toNat < 128 := Hs.out _ (Array.getElem_mem_toList (xs := s.data) hp)
        have hnx := fun ty => run_next_ascii (P := Tryd.prog) w s pos ty hp hlt
        have hb : (((s[pos]'hp).toNat : Int) == 65533) = false := beq_eq_false_iff_ne.2 (by omega)
        generalize (s[pos]'hp).toNat = c at *
        go_wp2_with fail
        go_roundw
        case rel => exact ⟨pos + 1, rfl⟩
        case measure => simp; omega
      · have hnx := fun ty => run_next_end (P := Tryd.prog) w s pos ty hp
        go_wp2_with fail
        go_ret
        exact ⟨rfl, (Below.refl _ _).alloc (Nat.le_refl _) _⟩
  · have hb : (r == 65533) = false := beq_eq_false_iff_ne.2 he
    cases hv : Lib.validRune r
    · go_enter Tryd.func71, Tryd.ntmps71
      go_wp2_with (go_at_call 75; refine (Tryd.utf8_ValidRune _ _).mono ?_; rintro e w' ⟨rfl, rfl⟩)
      go_ret
      exact ⟨rfl, Below.refl _ _⟩
    · obtain ⟨z, hz, m, hzm, hm3, hml, f3⟩ := encode_last r hv hr
      have hms : m < s.size := by omega
      have hiz : ∀ W : World, (Instr.index 9 (.string z) (.int .i64 (m : Int))).run Tryd.prog W = .ok (.int .u8 ((z[m]'hml).toNat : Int)) W := by
        intro W
        rw [run_index_string (P := Tryd.prog) W 9 z .i64 (m : Int) Tryd.underlying9, dif_pos ⟨by omega, by omega⟩]
        rfl
      have hx : (s[m]'hms).toNat < 128 := Hs.out _ (Array.getElem_mem_toList (xs := s.data) hms)
      have hne : (((s[m]'hms).toNat : Int) == ((z[m]'hml).toNat : Int)) = false := beq_eq_false_iff_ne.2 (by omega)
      have hix : ∀ t : ByteArray, (∀ b ∈ t.data.toList, b ∈ s.data.toList) → Lib.indexByte t.data.toList (((z[m]'hml).toNat : Int)).toNat.toUInt8 = -1 := by
        intro t ht
        refine indexByte_none _ _ fun b hbm e => ?_
        have := Hs.out b (ht b hbm)
        rw [e] at this
        simp at this
        omega
      go_enter Tryd.func71, Tryd.ntmps71
      go_wp2_with (go_at_call 75; refine (Tryd.utf8_ValidRune _ _).mono ?_; rintro e w' ⟨rfl, rfl⟩)
      go_step3
      go_wp2_with fail
      go_loop [9] (fun i => i = .int .i64 m) (fun _ => 0)
      case atStart => rfl
      case round =>
        subst hrel
        have hsl : ∀ W : World, (Instr.slice 9 (.string s) (some (.int .i64 ((m : Int) + 1))) none none).run Tryd.prog W = .ok (.string (s.extract (m + 1) s.size)) W := by
          intro W
          have := run_slice_string_l (P := Tryd.prog) W 9 s Tryd.underlying9 .i64 ((m : Int) + 1) (by omega) (by omega)
          rw [this, show ((m : Int) + 1).toNat = m + 1 by omega]
        have hix' := hix (s.extract (m + 1) s.size) (fun b hb => mem_extract hb)
        clear hix
        generalize s.extract (m + 1) s.size = y at *
        generalize (z[m]'hml).toNat = c at *
        have hix2 : Lib.indexByte y.data.toList (UInt8.ofNat c) = -1 := hix'
        have hne2 : (((s[m]'hms).toNat : Int) != (c : Int)) = true := by simpa using hne
        go_wp2_with fail
        go_step3
        go_wp2_with fail
        go_quiet (fail)
        have HB := Lib.hid (belowN (Below.refl w'.heap.size w') nq)
        generalize w'.drewN nq = w1 at *
        go_wp2_with fail
        have s1 : IntKind.i64.wrap ((m : Int) + 1) = (m : Int) + 1 := IntWalk.i64_in _ (by omega)
        go_quiet ((go_at_call 74; exact quietW (Tryd.strings_IndexByte _ _ _)))
        go_wp2_with fail
        show bodyPost Tryd.prog Tryd.f71 (fun e w'' => e = .returned (.int .i64 (-1)) ∧ Below w'.heap.size w' w'') .ret _ _
        go_ret
        exact ⟨rfl, belowN HB.out _⟩

end Go.Proofs.YtggpecddhileoaaDoor
