
/-
  What is proved: contracts of NumberOf of the program and of its model, and the walk of its law. No condition beside what each theorem states.
-/
import Derived.Test.YtggpecddhileoaaDoorRune
import Derived.Test.YtggpecddhileoaaDoorBytes
namespace Go.Proofs.YtggpecddhileoaaDoor
open Go.ChangeShapes Go.WideShapes Go.ChangeAt Go.RowKit

/-- The value of a digit by sixteens, -1 where it is none. -/
def hexZ (c : Int) : Int := if 48 ≤ c ∧ c ≤ 57 then c - 48 else if 65 ≤ c ∧ c ≤ 70 then c - 55 else -1
/-- The number of the first k digits by a base. -/
def numV (b : Nat) (x : ByteArray) : Nat → Nat
  | 0 => 0
  | k + 1 => numV b x k * b + (hexZ (byteAt x k)).toNat
def digOk (b : Nat) (x : ByteArray) (k : Nat) : Prop := 0 ≤ hexZ (byteAt x k) ∧ hexZ (byteAt x k) < b
def digTo (b : Nat) (x : ByteArray) (k : Nat) : Prop := ∀ j, j < k → digOk b x j
def numP (b most : Nat) (x : ByteArray) : Prop := 1 ≤ x.size ∧ x.size ≤ most ∧ digt (byteAt x 0) = true ∧ digTo b x x.size

theorem digTo_snoc {b : Nat} {x : ByteArray} {k : Nat} (h : digTo b x k) (h1 : digOk b x k) : digTo b x (k + 1) := fun j hj => by
  by_cases e : j = k
  · rw [e]; exact h1
  · exact h j (by omega)

theorem numV_lt {b : Nat} {x : ByteArray} {k : Nat} (h : digTo b x k) : numV b x k < b ^ k := by
  induction k with
  | zero => simp [numV]
  | succ k ih =>
    have h1 := ih (fun j hj => h j (by omega))
    have h2 := h k (by omega)
    unfold digOk at h2
    have h3 : (hexZ (byteAt x k)).toNat + 1 ≤ b := by omega
    have h4 : (numV b x k + 1) * b ≤ b ^ k * b := Nat.mul_le_mul_right _ h1
    rw [Nat.pow_succ]
    unfold numV
    rw [Nat.add_mul] at h4
    omega

theorem numV_bd {b : Nat} {x : ByteArray} {k : Nat} (h : digTo b x k) (hk : k ≤ 9) (hb : b ≤ 16) : numV b x k < 68719476736 := by
  refine Nat.lt_of_lt_of_le (numV_lt h) ?_
  have h1 : b ^ k ≤ 16 ^ k := Nat.pow_le_pow_left hb k
  have h2 : 16 ^ k ≤ 16 ^ 9 := Nat.pow_le_pow_right (by decide) hk
  have h3 : (16 : Nat) ^ 9 = 68719476736 := by decide
  omega

/-- The digits of the program. -/
def digs : ByteArray := ⟨#[48, 49, 50, 51, 52, 53, 54, 55, 56, 57, 65, 66, 67, 68, 69, 70]⟩
theorem digs_size : digs.size = 16 := rfl
theorem digs_ascii : ∀ b ∈ digs.data.toList, b.toNat < 128 := by decide
set_option maxRecDepth 100000 in
theorem dig_index10 : ∀ c : Fin 128, Lib.indexByte (digs.extract 0 10).data.toList (c.val : Int).toNat.toUInt8 = if hexZ c.val < 10 then hexZ c.val else -1 := by decide
set_option maxRecDepth 100000 in
theorem dig_index16 : ∀ c : Fin 128, Lib.indexByte (digs.extract 0 16).data.toList (c.val : Int).toNat.toUInt8 = if hexZ c.val < 16 then hexZ c.val else -1 := by decide

theorem dig_index (b : Nat) (hb : b = 10 ∨ b = 16) (c : Nat) (hc : c < 128) : Lib.indexByte (digs.extract 0 b).data.toList (c : Int).toNat.toUInt8 = if hexZ c < b then hexZ c else -1 := by
  rcases hb with rfl | rfl
  · exact dig_index10 ⟨c, hc⟩
  · exact dig_index16 ⟨c, hc⟩

theorem hexZ_lo (c : Int) : -1 ≤ hexZ c ∧ hexZ c ≤ 15 := by unfold hexZ; split; omega; split <;> omega
theorem hexZ_high {c : Int} (h : 128 ≤ c) : hexZ c = -1 := by unfold hexZ; rw [if_neg (by omega), if_neg (by omega)]
theorem hexZ_digt {c : Int} (h : digt c = true) : hexZ c = c - 48 ∧ 48 ≤ c ∧ c ≤ 57 := by
  unfold digt at h
  simp at h
  unfold hexZ
  rw [if_pos h]
  omega

theorem num_next {b : Nat} {x : ByteArray} {k : Nat} (h : digTo b x (k + 1)) (hk : k + 1 ≤ 9) (hb : b ≤ 16) : wrap64 (wrap64 ((numV b x k : Int) * (b : Int)) + hexZ (byteAt x k)) = (numV b x (k + 1) : Int) := by
  have h1 := numV_bd h hk hb
  have h2 := (h k (by omega)).1
  have e : ((numV b x (k + 1) : Nat) : Int) = (numV b x k : Int) * (b : Int) + hexZ (byteAt x k) := by
    show ((numV b x k * b + (hexZ (byteAt x k)).toNat : Nat) : Int) = _
    rw [Int.natCast_add, Int.natCast_mul, Int.toNat_of_nonneg h2]
  have h3 : 0 ≤ (numV b x k : Int) * (b : Int) := by rw [← Int.natCast_mul]; omega
  have h4 : (numV b x k : Int) * (b : Int) + hexZ (byteAt x k) < 68719476736 := by rw [← e]; omega
  rw [e]
  generalize (numV b x k : Int) * (b : Int) = M at *
  rw [IntWalk.wrap64_in M (by omega), IntWalk.wrap64_in _ (by omega)]

set_option maxRecDepth 100000 in
set_option maxHeartbeats 2000000 in
theorem iNumberBy (b most : Nat) (x : ByteArray) (w : World) (hb : b = 10 ∨ b = 16) (hm : most ≤ 9) (hx : x.size ≤ maxLen) :
    Calls Tryd.prog 65 #[.int .i64 b, .string x, .int .i64 most] w fun e w' =>
      ((numP b most x ∧ e = .returned (.tuple #[.int .i64 (numV b x x.size), .bool true])) ∨ (¬ numP b most x ∧ e = .returned (.tuple #[.int .i64 0, .bool false]))) ∧ Below w.heap.size w w' := by
  unfold maxLen at hx
  have hbb : b ≤ 16 := by omega
  by_cases h0 : x.size < 1
  · have Hn := Lib.hid (show ¬ numP b most x from fun h => by have := h.1; omega)
    go_enter Tryd.func65, Tryd.ntmps65
    go_wp2_with fail
    go_ret2
    exact ⟨Or.inr ⟨Hn.out, rfl⟩, Below.refl _ _⟩
  by_cases h1 : most < x.size
  · have Hn := Lib.hid (show ¬ numP b most x from fun h => by have := h.2.1; omega)
    have d1 : decide ((most : Int) < (x.size : Int)) = true := by simp; omega
    go_enter Tryd.func65, Tryd.ntmps65
    go_wp2_with fail
    go_ret2
    exact ⟨Or.inr ⟨Hn.out, rfl⟩, Below.refl _ _⟩
  have hp : 0 < x.size := by omega
  have d0 : decide ((x.size : Int) < 1) = false := by simp; omega
  have d1 : decide ((most : Int) < (x.size : Int)) = false := by simp; omega
  have e0 := byteAt_get x 0 hp
  cases hl : digt (x[0].toNat : Int)
  · have Hn := Lib.hid (show ¬ numP b most x from fun h => by have := h.2.2.1; rw [← e0, hl] at this; cases this)
    clear e0
    go_enter Tryd.func65, Tryd.ntmps65
    go_wp2_with (go_at_call 55; refine (iDigit _ _).mono ?_; rintro e w' ⟨rfl, rfl⟩)
    go_ret2
    exact ⟨Or.inr ⟨Hn.out, rfl⟩, Below.refl _ _⟩
  · have H0 := Lib.hid (show digt (byteAt x 0) = true by rw [← e0]; exact hl)
    clear e0
    go_enter Tryd.func65, Tryd.ntmps65
    go_wp2_with (go_at_call 55; refine (iDigit _ _).mono ?_; rintro e w' ⟨rfl, rfl⟩)
    have hsl : ∀ W : World, (Instr.slice 9 (.string ⟨#[48, 49, 50, 51, 52, 53, 54, 55, 56, 57, 65, 66, 67, 68, 69, 70]⟩) none (some (.int .i64 (b : Int))) none).run Tryd.prog W = .ok (.string (digs.extract 0 b)) W := by
      intro W
      have := run_slice_string_h (P := Tryd.prog) W 9 digs Tryd.underlying9 .i64 (b : Int) (by omega) (by rw [digs_size]; omega)
      exact this
    have hdi := Lib.hid (dig_index b hb)
    have hda := Lib.hid (show ∀ c ∈ (digs.extract 0 b).data.toList, c.toNat < 128 from fun c hc => digs_ascii c (mem_extract hc))
    have hds : 4 ≤ (digs.extract 0 b).size ∧ (digs.extract 0 b).size ≤ 100 := by rw [ByteArray.size_extract, digs_size]; omega
    generalize digs.extract 0 b = y at *
    go_loopw [8] (fun n w' => ∃ k : Nat, k ≤ x.size ∧ w' = w.iter x k ∧ n = .int .i64 (numV b x k) ∧ digTo b x k) (fun _ w' => x.size - w'.iterPos w.heap.size)
    case atStart => exact ⟨0, by omega, rfl, rfl, fun j hj => absurd hj (by omega)⟩
    case round =>
      obtain ⟨k, hk, rfl, rfl, hdt⟩ := hrel
      have Hdt := Lib.hid hdt
      clear hdt
      by_cases hlt : k < x.size
      · have ek := byteAt_get x k hlt
        by_cases ha : (x[k]'hlt).toNat < 128
        · have hnx := fun ty => run_next_ascii (P := Tryd.prog) w x k ty hlt ha
          have hi : Lib.indexByte y.data.toList (((x[k]'hlt).toNat : Int)).toNat.toUInt8 = if hexZ (byteAt x k) < b then hexZ (byteAt x k) else -1 := by rw [hdi.out _ ha, ek]
          have hlo := hexZ_lo (byteAt x k)
          by_cases hd : digOk b x k
          · rw [if_pos hd.2] at hi
            have Hdt' := Lib.hid (digTo_snoc Hdt.out hd)
            have Hs := Lib.hid (num_next Hdt'.out (by omega) hbb)
            have d2 : decide (hexZ (byteAt x k) < 0) = false := decide_eq_false (by have := hd.1; omega)
            clear ek hd
            generalize (x[k]'hlt).toNat = c at *
            generalize hexZ (byteAt x k) = d at *
            go_wp2_with (go_at_call 71; refine (Tryd.strings_IndexRune_ascii _ _ _ (by omega) (by omega)).mono ?_; rintro e w' ⟨rfl, rfl⟩; rw [hi])
            go_roundw
            case rel => exact ⟨k + 1, by omega, rfl, by rw [← Hs.out], Hdt'.out⟩
            case measure => simp; omega
          · have hi2 : Lib.indexByte y.data.toList (((x[k]'hlt).toNat : Int)).toNat.toUInt8 = -1 := by
              rw [hi]
              split
              · rename_i hh
                by_cases h9 : 0 ≤ hexZ (byteAt x k)
                · exact absurd ⟨h9, hh⟩ hd
                · omega
              · rfl
            clear hi
            have Hn := Lib.hid (show ¬ numP b most x from fun h => hd (h.2.2.2 k hlt))
            clear ek hd hlo
            generalize (x[k]'hlt).toNat = c at *
            go_wp2_with (go_at_call 71; refine (Tryd.strings_IndexRune_ascii _ _ _ (by omega) (by omega)).mono ?_; rintro e w' ⟨rfl, rfl⟩; rw [hi2])
            go_ret2
            exact ⟨Or.inr ⟨Hn.out, rfl⟩, (Below.refl _ _).alloc (Nat.le_refl _) _⟩
        · have hnx := fun ty => run_next_any (P := Tryd.prog) w x k ty hlt
          have hh := (decode_high x k hlt (by omega)).1
          have Hn := Lib.hid (show ¬ numP b most x from fun h => by
            have := (h.2.2.2 k hlt).1
            rw [hexZ_high (by omega)] at this
            omega)
          clear ek
          generalize (Utf8.decode x k).1 = r at *
          generalize (Utf8.decode x k).2 = m at *
          go_wp2_with (go_at_call 71; refine (iRune_high _ _ _ hda.out hds.1 hds.2 (by omega)).mono ?_; rintro e w' ⟨rfl, hbw⟩)
          go_ret2
          exact ⟨Or.inr ⟨Hn.out, rfl⟩, ((Below.refl _ _).alloc (Nat.le_refl _) _).trans (hbw.mono (by simp [World.iter]))⟩
      · obtain rfl : k = x.size := by omega
        have hnx := fun ty => run_next_end (P := Tryd.prog) w x x.size ty hlt
        have Hp := Lib.hid (show numP b most x from ⟨by omega, by omega, H0.out, Hdt.out⟩)
        go_wp2_with fail
        go_ret2
        exact ⟨Or.inl ⟨Hp.out, rfl⟩, (Below.refl _ _).alloc (Nat.le_refl _) _⟩

end Go.Proofs.YtggpecddhileoaaDoor
