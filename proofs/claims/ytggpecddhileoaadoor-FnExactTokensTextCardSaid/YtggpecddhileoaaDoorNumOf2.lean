
/-
  What is proved: contracts of NumberOf of the program and of its model, and the walk of its law. No condition beside what each theorem states.
-/
import Derived.Test.YtggpecddhileoaaDoorNumOf
namespace Go.Proofs.YtggpecddhileoaaDoor
open Go.ChangeShapes Go.WideShapes Go.ChangeAt Go.RowKit

/-- The text ends with H. -/
def endsH (s : ByteArray) : Prop := 1 ≤ s.size ∧ byteAt s (s.size - 1) = 72
/-- It is a number. -/
def numOk (s : ByteArray) : Prop := (endsH s ∧ numP 16 7 (s.extract 0 (s.size - 1))) ∨ (¬ endsH s ∧ numP 10 9 s)
open Classical in
noncomputable def numVal (s : ByteArray) : Nat := if endsH s then numV 16 (s.extract 0 (s.size - 1)) (s.extract 0 (s.size - 1)).size else numV 10 s s.size

theorem numOk_H {s : ByteArray} (h : endsH s) : numOk s ↔ numP 16 7 (s.extract 0 (s.size - 1)) := ⟨fun h' => h'.elim (fun x => x.2) (fun x => absurd h x.1), fun x => .inl ⟨h, x⟩⟩
theorem numOk_D {s : ByteArray} (h : ¬ endsH s) : numOk s ↔ numP 10 9 s := ⟨fun h' => h'.elim (fun x => absurd x.1 h) (fun x => x.2), fun x => .inr ⟨h, x⟩⟩
theorem numVal_H {s : ByteArray} (h : endsH s) : numVal s = numV 16 (s.extract 0 (s.size - 1)) (s.extract 0 (s.size - 1)).size := by unfold numVal; rw [if_pos h]
theorem numVal_D {s : ByteArray} (h : ¬ endsH s) : numVal s = numV 10 s s.size := by unfold numVal; rw [if_neg h]

theorem numP_lt {b most : Nat} {x : ByteArray} (h : numP b most x) (hm : most ≤ 9) (hb : b ≤ 16) : numV b x x.size < 68719476736 := numV_bd h.2.2.2 (by have := h.2.1; omega) hb
theorem numVal_lt {s : ByteArray} (h : numOk s) : numVal s < 68719476736 := by
  rcases h with ⟨h1, h2⟩ | ⟨h1, h2⟩
  · rw [numVal_H h1]; exact numP_lt h2 (by decide) (by decide)
  · rw [numVal_D h1]; exact numP_lt h2 (by decide) (by decide)

theorem suff_iff (s : ByteArray) : Lib.hasSuffix s.data.toList [72] = true ↔ endsH s := by
  rw [← Lib.hasSuffix_of_drop]
  simp only [Bool.and_eq_true, decide_eq_true_eq, beq_iff_eq]
  have hl : s.data.toList.length = s.size := by simp
  rw [hl]
  unfold endsH
  constructor
  · rintro ⟨h1, h2⟩
    have h1' : 1 ≤ s.size := by simpa using h1
    refine ⟨h1', ?_⟩
    have e : s.data.toList[s.size - 1]? = some 72 := by
      have := congrArg (fun l => l[0]?) h2
      simpa using this
    have hlt : s.size - 1 < s.data.size := by show s.size - 1 < s.size; omega
    rw [← data_byte s _ hlt, getElem!_pos s.data _ hlt]
    rw [Array.getElem?_toList, Array.getElem?_eq_getElem hlt] at e
    injection e with e
    rw [e]
    rfl
  · rintro ⟨h1, h2⟩
    refine ⟨by simpa using h1, ?_⟩
    have hlt : s.size - 1 < s.data.size := by show s.size - 1 < s.size; omega
    rw [← data_byte s _ hlt, getElem!_pos s.data _ hlt] at h2
    have h3 : s.data[s.size - 1] = 72 := UInt8.toNat_inj.1 (show (s.data[s.size - 1]).toNat = 72 by omega)
    have hlt' : s.size - 1 < s.data.toList.length := by omega
    show s.data.toList.drop (s.size - 1) = [72]
    rw [List.drop_eq_getElem_cons hlt', List.drop_of_length_le (by omega)]
    simp [h3]

theorem trim_H {s : ByteArray} (h : endsH s) : (⟨(Lib.trimSuffix s.data.toList [72]).toArray⟩ : ByteArray) = s.extract 0 (s.size - 1) := by
  unfold Lib.trimSuffix
  rw [if_pos ((suff_iff s).2 h), Lib.extract_eq]
  have hl : s.data.toList.length = s.size := by simp
  simp [hl]

def NumAns (s : ByteArray) (e : Ending) : Prop := (numOk s ∧ e = .returned (.tuple #[.int .i64 (numVal s), .bool true])) ∨ (¬ numOk s ∧ e = .returned (.tuple #[.int .i64 0, .bool false]))

set_option maxHeartbeats 2000000 in
theorem iNumberOf (s : ByteArray) (w : World) (hs : s.size ≤ maxLen) : Calls Tryd.prog 51 #[.string s] w fun e w' => NumAns s e ∧ Below w.heap.size w w' := by
  have hs' : s.size ≤ 9223372036854775807 := by unfold maxLen at hs; omega
  by_cases h : endsH s
  · have h1 := (suff_iff s).2 h
    have h2 := trim_H h
    have h3 := numOk_H h
    have h4 := numVal_H h
    have hx : (s.extract 0 (s.size - 1)).size ≤ maxLen := by rw [ByteArray.size_extract]; omega
    have hc := Lib.hid (fun w => iNumberBy 16 7 (s.extract 0 (s.size - 1)) w (.inr rfl) (by decide) hx)
    have HN := Lib.hid (show ∀ e, ((numP 16 7 (s.extract 0 (s.size - 1)) ∧ e = .returned (.tuple #[.int .i64 (numV 16 (s.extract 0 (s.size - 1)) (s.extract 0 (s.size - 1)).size), .bool true])) ∨ (¬ numP 16 7 (s.extract 0 (s.size - 1)) ∧ e = .returned (.tuple #[.int .i64 0, .bool false]))) → NumAns s e from fun e he => by
      unfold NumAns
      rw [h3, h4]
      exact he)
    clear h3 h4 hx
    generalize s.extract 0 (s.size - 1) = x at *
    go_enter Tryd.func51, Tryd.ntmps51
    go_wp2_with (go_at_call 64; refine (Tryd.strings_CutSuffix _ _ _ hs').mono ?_; rintro e w' ⟨rfl, rfl⟩; rw [h1, h2])
    refine (hc.out _).mono ?_
    rintro e w' ⟨⟨hp, rfl⟩ | ⟨hp, rfl⟩, hb⟩
    · have HA := Lib.hid (HN.out _ (.inl ⟨hp, rfl⟩))
      clear HN hc hp
      go_wp2_with fail
      go_ret2
      exact ⟨HA.out, hb⟩
    · have HA := Lib.hid (HN.out _ (.inr ⟨hp, rfl⟩))
      clear HN hc hp
      go_wp2_with fail
      go_ret2
      exact ⟨HA.out, hb⟩
  · have h1 : Lib.hasSuffix s.data.toList [72] = false := by
      cases hh : Lib.hasSuffix s.data.toList [72]
      · rfl
      · exact absurd ((suff_iff s).1 hh) h
    have h3 := numOk_D h
    have h4 := numVal_D h
    have hc := Lib.hid (fun w => iNumberBy 10 9 s w (.inl rfl) (by decide) hs)
    have HN := Lib.hid (show ∀ e, ((numP 10 9 s ∧ e = .returned (.tuple #[.int .i64 (numV 10 s s.size), .bool true])) ∨ (¬ numP 10 9 s ∧ e = .returned (.tuple #[.int .i64 0, .bool false]))) → NumAns s e from fun e he => by
      unfold NumAns
      rw [h3, h4]
      exact he)
    clear h3 h4
    go_enter Tryd.func51, Tryd.ntmps51
    go_wp2_with (go_at_call 64; refine (Tryd.strings_CutSuffix _ _ _ hs').mono ?_; rintro e w' ⟨rfl, rfl⟩; rw [h1])
    refine (hc.out _).mono ?_
    rintro e w' ⟨⟨hp, rfl⟩ | ⟨hp, rfl⟩, hb⟩
    · have HA := Lib.hid (HN.out _ (.inl ⟨hp, rfl⟩))
      clear HN hc hp
      go_wp2_with fail
      go_ret2
      exact ⟨HA.out, hb⟩
    · have HA := Lib.hid (HN.out _ (.inr ⟨hp, rfl⟩))
      clear HN hc hp
      go_wp2_with fail
      go_ret2
      exact ⟨HA.out, hb⟩

theorem sDigit (c : Int) (w : World) : Calls Tryd.prog 58 #[.int .u8 c] w fun e w' => e = .returned (.bool (digt c)) ∧ w = w' := by
  have key : digt c = (decide (48 ≤ c) && decide (c ≤ 57)) := rfl
  have H := Lib.hid key
  clear key
  cases a1 : decide (48 ≤ c) <;> cases a2 : decide (c ≤ 57)
  all_goals first
    | (exfalso; simp at a1 a2; omega)
    | (go_enter Tryd.func58, Tryd.ntmps58
       go_wp2
       go_ret
       exact ⟨by rw [H.out, a1, a2]; rfl, rfl⟩)

set_option maxHeartbeats 1000000 in
theorem sHex (c : Int) (w : World) (h0 : 0 ≤ c) (h1 : c ≤ 255) : Calls Tryd.prog 68 #[.int .u8 c] w fun e w' => e = .returned (.int .i64 (hexZ c)) ∧ w = w' := by
  cases hd : digt c
  · have hn : ¬ (48 ≤ c ∧ c ≤ 57) := by unfold digt at hd; simpa using hd
    by_cases h2 : 65 ≤ c ∧ c ≤ 70
    · have H := Lib.hid (show hexZ c = c - 65 + 10 by unfold hexZ; rw [if_neg hn, if_pos h2]; omega)
      obtain ⟨h3, h4⟩ := h2
      clear hn
      go_enter Tryd.func68, Tryd.ntmps68
      go_wp2_with (go_at_call 58; refine (sDigit _ _).mono ?_; rintro e w' ⟨rfl, rfl⟩)
      go_ret
      exact ⟨by rw [H.out]; rfl, rfl⟩
    · have H := Lib.hid (show hexZ c = -1 by unfold hexZ; rw [if_neg hn, if_neg h2])
      clear hn
      cases a1 : decide (65 ≤ c)
      · go_enter Tryd.func68, Tryd.ntmps68
        go_wp2_with (go_at_call 58; refine (sDigit _ _).mono ?_; rintro e w' ⟨rfl, rfl⟩)
        go_ret
        exact ⟨by rw [H.out]; rfl, rfl⟩
      · have a2 : decide (c ≤ 70) = false := by simp at a1 ⊢; omega
        clear h2
        go_enter Tryd.func68, Tryd.ntmps68
        go_wp2_with (go_at_call 58; refine (sDigit _ _).mono ?_; rintro e w' ⟨rfl, rfl⟩)
        go_ret
        exact ⟨by rw [H.out]; rfl, rfl⟩
  · obtain ⟨h2, h3, h4⟩ := hexZ_digt hd
    have H := Lib.hid h2
    clear h2
    go_enter Tryd.func68, Tryd.ntmps68
    go_wp2_with (go_at_call 58; refine (sDigit _ _).mono ?_; rintro e w' ⟨rfl, rfl⟩)
    go_ret
    exact ⟨by rw [H.out]; rfl, rfl⟩

set_option maxRecDepth 100000 in
set_option maxHeartbeats 4000000 in
theorem sNumber (s : ByteArray) (w : World) (hs : s.size ≤ maxLen) : Calls Tryd.prog 60 #[.string s] w fun e w' => NumAns s e ∧ w = w' := by
  unfold maxLen at hs
  unfold NumAns
  by_cases h0 : s.size = 0
  · have Hn := Lib.hid (show ¬ numOk s from fun h => by
      rcases h with ⟨h1, _⟩ | ⟨_, h1⟩
      · have := h1.1; omega
      · have := h1.1; omega)
    obtain rfl : s = ByteArray.empty := ByteArray.ext (Array.eq_empty_of_size_eq_zero h0)
    go_enter Tryd.func60, Tryd.ntmps60
    go_wp2_with fail
    go_ret2
    exact ⟨Or.inr ⟨Hn.out, rfl⟩, rfl⟩
  have hp : 0 < s.size := by omega
  have he : s.toList.isEmpty = false := by
    rw [ByteArray.toList_eq]
    cases hh : s.data.toList.isEmpty
    · rfl
    · exact absurd (show s.size = 0 by have := List.isEmpty_iff.1 hh; have h2 := congrArg List.length this; simpa using h2) h0
  have e0 := byteAt_get s 0 hp
  cases hl : digt (s[0].toNat : Int)
  · have Hn := Lib.hid (show ¬ numOk s from fun h => by
      rcases h with ⟨h1, h2⟩ | ⟨_, h1⟩
      · have h3 := h2.2.2.1
        have h4 := h2.1
        rw [ByteArray.size_extract] at h4
        rw [byteAt_extract s 0 (s.size - 1) 0 (by omega) (by omega), ← e0, hl] at h3
        cases h3
      · have h3 := h1.2.2.1
        rw [← e0, hl] at h3
        cases h3)
    clear e0
    go_enter Tryd.func60, Tryd.ntmps60
    go_wp2_with (go_at_call 58; refine (sDigit _ _).mono ?_; rintro e w' ⟨rfl, rfl⟩)
    go_ret2
    exact ⟨Or.inr ⟨Hn.out, rfl⟩, rfl⟩
  obtain ⟨m, hm⟩ : ∃ m, s.size = m + 1 := ⟨s.size - 1, by omega⟩
  have hml : m < s.size := by omega
  have em := byteAt_get s m hml
  have hix : ∀ W : World, (Instr.index 9 (.string s) (.int .i64 (m : Int))).run Tryd.prog W = .ok (.int .u8 ((s[m]'hml).toNat : Int)) W := by
    intro W
    rw [run_index_string (P := Tryd.prog) W 9 s .i64 (m : Int) Tryd.underlying9, dif_pos ⟨by omega, by omega⟩]
    rfl
  by_cases h : endsH s
  · have h9 := h.2
    rw [show s.size - 1 = m by omega] at h9
    have hok := numOk_H h
    have hval := numVal_H h
    rw [show s.size - 1 = m by omega] at hok hval
    have hsz : (s.extract 0 m).size = m := by rw [ByteArray.size_extract]; omega
    have hm1 : 1 ≤ m := by
      refine Nat.one_le_iff_ne_zero.2 fun hm0 => ?_
      subst hm0
      rw [e0, h9] at hl
      cases hl
    have HD := Lib.hid (show digt (byteAt (s.extract 0 m) 0) = true by
      rw [byteAt_extract s 0 m 0 (by omega) (by omega), ← e0]; exact hl)
    have hsl : ∀ W : World, (Instr.slice 9 (.string s) none (some (.int .i64 (m : Int))) none).run Tryd.prog W = .ok (.string (s.extract 0 m)) W := by
      intro W
      have := run_slice_string_h (P := Tryd.prog) W 9 s Tryd.underlying9 .i64 (m : Int) (by omega) (by omega)
      rw [this]; rfl
    rw [em, h9] at hix
    have Hok := Lib.hid hok
    have Hval := Lib.hid hval
    generalize s.extract 0 m = x at *
    clear h h9 em e0 hok hval
    have Hm := Lib.hid hm
    go_enter Tryd.func60, Tryd.ntmps60
    go_wp2_with (go_at_call 58; refine (sDigit _ _).mono ?_; rintro e w' ⟨rfl, rfl⟩)
    go_loop [7, 8] (fun n i => ∃ k : Nat, k ≤ x.size ∧ k ≤ 7 ∧ i = .int .i64 k ∧ n = .int .i64 (numV 16 x k) ∧ digTo 16 x k) (fun _ i => x.size - (intOf i).toNat)
    case atStart => exact ⟨0, by omega, by omega, rfl, rfl, fun j hj => absurd hj (by omega)⟩
    case round =>
      obtain ⟨k, hk, hkm, rfl, rfl, hdt⟩ := hrel
      have Hdt := Lib.hid hdt
      clear hdt
      by_cases hlt : k < x.size
      · have ek := byteAt_get x k hlt
        have hbl := byteAt_le x k
        have hlo := hexZ_lo (byteAt x k)
        by_cases hd : digOk 16 x k
        · have d1 : decide (hexZ (byteAt x k) < 0) = false := decide_eq_false (by have := hd.1; omega)
          have d2 : decide (16 ≤ hexZ (byteAt x k)) = false := decide_eq_false (by have := hd.2; omega)
          by_cases hm : k = 7
          · have Hn := Lib.hid (show ¬ numOk s from fun h => by
              have := (Hok.out.1 h).2.1
              omega)
            have d3 : decide (7 ≤ (k : Int)) = true := by simp; omega
            clear hd hm
            go_wp2_with (go_at_call 68; refine (sHex _ _ (by omega) (by omega)).mono ?_; rintro e w' ⟨rfl, rfl⟩)
            go_ret2
            exact ⟨Or.inr ⟨Hn.out, rfl⟩, rfl⟩
          · have Hdt' := Lib.hid (digTo_snoc Hdt.out hd)
            have Hs := Lib.hid (num_next Hdt'.out (by omega) (by decide))
            have d3 : decide (7 ≤ (k : Int)) = false := by simp; omega
            clear hd
            go_wp2_with (go_at_call 68; refine (sHex _ _ (by omega) (by omega)).mono ?_; rintro e w' ⟨rfl, rfl⟩)
            go_round
            case rel => exact ⟨k + 1, by omega, by omega, by go_num, by rw [← Hs.out]; rfl, Hdt'.out⟩
            case measure => simp [intOf]; omega
        · have Hn := Lib.hid (show ¬ numOk s from fun h => hd ((Hok.out.1 h).2.2.2 k hlt))
          have d4 : hexZ (byteAt x k) < 0 ∨ 16 ≤ hexZ (byteAt x k) := by
            unfold digOk at hd
            omega
          clear hd
          rcases d4 with d4 | d4
          · have d1 : decide (hexZ (byteAt x k) < 0) = true := decide_eq_true d4
            go_wp2_with (go_at_call 68; refine (sHex _ _ (by omega) (by omega)).mono ?_; rintro e w' ⟨rfl, rfl⟩)
            go_ret2
            exact ⟨Or.inr ⟨Hn.out, rfl⟩, rfl⟩
          · exact absurd d4 (by omega)
      · obtain rfl : k = x.size := by omega
        have Hp := Lib.hid (show numOk s from Hok.out.2 ⟨by omega, by omega, HD.out, Hdt.out⟩)
        go_wp2_with fail
        go_ret2
        exact ⟨Or.inl ⟨Hp.out, by rw [Hval.out, hsz]; rfl⟩, rfl⟩
  · have hne : ((s[m]'hml).toNat : Int) ≠ 72 := fun h9 => h ⟨by omega, by rw [show s.size - 1 = m by omega, ← em]; exact h9⟩
    have hbe : (((s[m]'hml).toNat : Int) == 72) = false := beq_eq_false_iff_ne.2 hne
    have HD := Lib.hid (show digt (byteAt s 0) = true by rw [← e0]; exact hl)
    have Hok := Lib.hid (numOk_D h)
    have Hval := Lib.hid (numVal_D h)
    clear h em e0 hne
    generalize (s[m]'hml).toNat = q at *
    go_enter Tryd.func60, Tryd.ntmps60
    go_wp2_with (go_at_call 58; refine (sDigit _ _).mono ?_; rintro e w' ⟨rfl, rfl⟩)
    go_loop [7, 8] (fun n i => ∃ k : Nat, k ≤ s.size ∧ k ≤ 9 ∧ i = .int .i64 k ∧ n = .int .i64 (numV 10 s k) ∧ digTo 10 s k) (fun _ i => s.size - (intOf i).toNat)
    case atStart => exact ⟨0, by omega, by omega, rfl, rfl, fun j hj => absurd hj (by omega)⟩
    case round =>
      obtain ⟨k, hk, hkm, rfl, rfl, hdt⟩ := hrel
      have Hdt := Lib.hid hdt
      clear hdt
      by_cases hlt : k < s.size
      · have ek := byteAt_get s k hlt
        have hbl := byteAt_le s k
        have hlo := hexZ_lo (byteAt s k)
        by_cases hd : digOk 10 s k
        · have d1 : decide (hexZ (byteAt s k) < 0) = false := decide_eq_false (by have := hd.1; omega)
          have d2 : decide (10 ≤ hexZ (byteAt s k)) = false := decide_eq_false (by have := hd.2; omega)
          by_cases hm : k = 9
          · have Hn := Lib.hid (show ¬ numOk s from fun h => by
              have := (Hok.out.1 h).2.1
              omega)
            have d3 : decide (9 ≤ (k : Int)) = true := by simp; omega
            clear hd hm
            go_wp2_with (go_at_call 68; refine (sHex _ _ (by omega) (by omega)).mono ?_; rintro e w' ⟨rfl, rfl⟩)
            go_ret2
            exact ⟨Or.inr ⟨Hn.out, rfl⟩, rfl⟩
          · have Hdt' := Lib.hid (digTo_snoc Hdt.out hd)
            have Hs := Lib.hid (num_next Hdt'.out (by omega) (by decide))
            have d3 : decide (9 ≤ (k : Int)) = false := by simp; omega
            clear hd
            go_wp2_with (go_at_call 68; refine (sHex _ _ (by omega) (by omega)).mono ?_; rintro e w' ⟨rfl, rfl⟩)
            go_round
            case rel => exact ⟨k + 1, by omega, by omega, by go_num, by rw [← Hs.out]; rfl, Hdt'.out⟩
            case measure => simp [intOf]; omega
        · have Hn := Lib.hid (show ¬ numOk s from fun h => hd ((Hok.out.1 h).2.2.2 k hlt))
          have d4 : hexZ (byteAt s k) < 0 ∨ 10 ≤ hexZ (byteAt s k) := by
            unfold digOk at hd
            omega
          clear hd
          rcases d4 with d4 | d4
          · have d1 : decide (hexZ (byteAt s k) < 0) = true := decide_eq_true d4
            go_wp2_with (go_at_call 68; refine (sHex _ _ (by omega) (by omega)).mono ?_; rintro e w' ⟨rfl, rfl⟩)
            go_ret2
            exact ⟨Or.inr ⟨Hn.out, rfl⟩, rfl⟩
          · have d1 : decide (hexZ (byteAt s k) < 0) = false := decide_eq_false (by omega)
            have d2 : decide (10 ≤ hexZ (byteAt s k)) = true := decide_eq_true d4
            go_wp2_with (go_at_call 68; refine (sHex _ _ (by omega) (by omega)).mono ?_; rintro e w' ⟨rfl, rfl⟩)
            go_ret2
            exact ⟨Or.inr ⟨Hn.out, rfl⟩, rfl⟩
      · obtain rfl : k = s.size := by omega
        have Hp := Lib.hid (show numOk s from Hok.out.2 ⟨by omega, by omega, HD.out, Hdt.out⟩)
        go_wp2_with fail
        go_ret2
        exact ⟨Or.inl ⟨Hp.out, by rw [show numVal s = numV 10 s (m + 1) by rw [Hval.out, hm]]; rfl⟩, rfl⟩

end Go.Proofs.YtggpecddhileoaaDoor
