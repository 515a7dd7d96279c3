/-
  What is proved: the walk of the law FnMixes. No condition beside what each theorem states.
-/
import Derived.Test.YtplmpjdlgooffaaDrawMixAll
namespace Go.Proofs.Ytplmpjdlgooffaa
open Go.ChangeShapes Go.WideShapes Go.ChangeAt Go.RowKit

theorem lBig_no (a a' : Option Addr) (n n' c c' : Nat) (w : World) (h : n + n' ≤ 1048576) :
    Calls Try.prog 15 #[.slice a n c, .slice a' n' c'] w fun e w' => e = .returned (.bool false) ∧ w = w' := by
  have d1 : decide (1048576 < (n : Int)) = false := by simp; omega
  have d2 : decide (1048576 - (n : Int) < (n' : Int)) = false := by simp; omega
  go_enter Try.func15, Try.ntmps15
  go_wp2_with fail
  go_ret
  exact ⟨rfl, rfl⟩

theorem lBig_yes (a a' : Option Addr) (n n' c c' : Nat) (w : World) (h : 1048576 < n + n') (h1 : n ≤ maxLen) :
    Calls Try.prog 15 #[.slice a n c, .slice a' n' c'] w fun e w' => e = .returned (.bool true) ∧ w = w' := by
  unfold maxLen at h1
  by_cases hn : 1048576 < n
  · have d1 : decide (1048576 < (n : Int)) = true := by simp; omega
    go_enter Try.func15, Try.ntmps15
    go_wp2_with fail
    go_ret
    exact ⟨rfl, rfl⟩
  · have d1 : decide (1048576 < (n : Int)) = false := by simp; omega
    have d2 : decide (1048576 - (n : Int) < (n' : Int)) = true := by simp; omega
    go_enter Try.func15, Try.ntmps15
    go_wp2_with fail
    go_ret
    exact ⟨rfl, rfl⟩

theorem RowIn.len {k : IntKind} {w : World} {a : Option Addr} {len cap : Nat} {zs : List Int} (h : RowIn k w a len cap zs) : len ≤ maxLen := by
  rcases h with ⟨_, rfl, _⟩ | ⟨_, _, h1, h2, _⟩
  · exact Nat.zero_le _
  · omega

theorem RowIn.code {w : World} {a : Option Addr} {len cap : Nat} {zs : List Int} (h : RowIn .u8 w a len cap zs) (hl : len ≤ 1048576) : Code w a len := by
  refine ⟨hl, fun i hi => ?_⟩
  rcases h with ⟨rfl, rfl, rfl, rfl⟩ | ⟨x, rfl, h1, h2, h3, h4, h5⟩
  · omega
  · obtain ⟨b, o, rfl, hc⟩ := ints_at h4 (by omega)
    have hci := hc i (by omega)
    have hw := h5 (zs.getD i 0) (by simp [List.getD, show i < zs.length by omega])
    have hbd := bounds_u8 hw
    exact ⟨b, o, _, rfl, World.block_lt_of_cell? w _ hci, hci, hbd.1, hbd.2⟩

theorem mixZ_bd (a b : Int) : 0 ≤ mixZ a b ∧ mixZ a b < 4611686018427387904 := by
  have key : ∀ y : Int, 0 ≤ wrap64 (bits .and .u64 (bits .xor .u64 y (y / 4294967296)) 4611686018427387903) ∧ wrap64 (bits .and .u64 (bits .xor .u64 y (y / 4294967296)) 4611686018427387903) < 4611686018427387904 := by
    intro y
    obtain ⟨s, hs⟩ : ∃ s, bits .xor .u64 y (y / 4294967296) = IntKind.u64.wrap s := ⟨_, rfl⟩
    rw [hs, IntKind.wrap_u64]
    have h0 := Int.emod_nonneg s (show (18446744073709551616 : Int) ≠ 0 by decide)
    have h1 := Int.emod_lt_of_pos s (show (0 : Int) < 18446744073709551616 by decide)
    generalize s % 18446744073709551616 = t at *
    have hm := bits_mask .u64 64 (by decide) (fun n h0 h1 => by rw [IntKind.wrap_u64]; omega) 62 (by decide) t (by omega) (by omega)
    rw [show ((2 : Int) ^ 62 - 1) = 4611686018427387903 from rfl, show ((2 : Int) ^ 62) = 4611686018427387904 from rfl] at hm
    rw [hm, IntWalk.wrap64_in _ (by omega)]
    omega
  exact key _

-- shell: FnMixes
set_option maxRecDepth 100000 in
set_option maxHeartbeats 2000000 in
theorem law_FnMixes (a : Option Addr) (len cap : Nat) (zs : List Int) (a' : Option Addr) (len' cap' : Nat) (zs' : List Int) (w : World) (h : RowIn .u8 w a len cap zs) (h' : RowIn .u8 w a' len' cap' zs') :
    Calls Try.prog 5 #[.slice a len cap, .slice a' len' cap'] w fun e w' => e = .returned (.bool true) ∧ Below w.heap.size w w' := by
  by_cases hbig : 1048576 < len + len'
  · have l1 := h.len
    clear h h'
    go_enter Try.func5, Try.ntmps5
    go_wp2_with (go_at_call 15; refine (lBig_yes _ _ _ _ _ _ _ hbig l1).mono ?_; rintro e w' ⟨rfl, rfl⟩)
    go_ret
    exact ⟨rfl, Below.refl _ _⟩
  · have H := Lib.hid (h.code (by omega))
    have H' := Lib.hid (h'.code (by omega))
    clear h h'
    go_enter Try.func5, Try.ntmps5
    go_wp2_with (go_at_call 15; refine (lBig_no _ _ _ _ _ _ _ (by omega)).mono ?_; rintro e w' ⟨rfl, rfl⟩)
    refine (dMix a len cap _ H.out).mono ?_
    rintro e w1 ⟨n, m, rfl, hb1⟩
    have Hb1 := Lib.hid hb1
    have H1 := Lib.hid (H'.out.below hb1)
    clear hb1 H H'
    go_wp2_with fail
    refine (iMix n m _).mono ?_
    rintro e w' ⟨rfl, rfl⟩
    go_wp2_with fail
    refine (sMix n m _).mono ?_
    rintro e w' ⟨rfl, rfl⟩
    have hz := mixZ_bd n m
    generalize mixZ n m = z at *
    have d1 : decide (z < 0) = false := by simp; omega
    have d2 : decide (4611686018427387904 ≤ z) = false := by simp; omega
    go_wp2_with fail
    refine (dMixAll a' len' cap' _ H1.out).mono ?_
    rintro e w2 ⟨a2, c2, l, rfl, hl, hi2, hb2⟩
    obtain ⟨x, ok, hS, hI, hok, hx⟩ := mixAll_both l (by omega)
    have HS := Lib.hid hS
    have HI := Lib.hid hI
    have Hok := Lib.hid hok
    have Hx := Lib.hid hx
    have Hi2 := Lib.hid hi2
    have Hb2 := Lib.hid (Hb1.out.trans (hb2.mono Hb1.out.size))
    clear hS hI hok hx hi2 hb2 d1 d2 hz
    go_wp2_with fail
    refine (HI.out _ _ _ Hi2.out).mono ?_
    rintro e w' ⟨rfl, rfl⟩
    go_wp2_with fail
    refine (HS.out _ _ _ Hi2.out).mono ?_
    rintro e w' ⟨rfl, rfl⟩
    cases ok
    · go_wp2_with fail
      go_ret
      exact ⟨rfl, Hb2.out⟩
    · obtain rfl := Hx.out rfl
      go_wp2_with fail
      go_loop [13, 65] (fun s i => ∃ k : Nat, i = .int .i64 k ∧ k ≤ l.length ∧ s = .int .i64 (mixTo l k)) (fun _ i => l.length - (intOf i).toNat)
      case atStart => exact ⟨0, rfl, by omega, rfl⟩
      case round =>
        obtain ⟨k, rfl, hk, rfl⟩ := hrel
        by_cases hlt : k < l.length
        · obtain ⟨b, o, rfl, hb1, hc1⟩ := Hi2.out k hlt
          have Hm := Lib.hid (mixTo_succ hlt)
          clear Hi2 HS HI
          generalize l.getD k 0 = x at *
          go_wp2_with (go_at_call 38; refine (iMix _ _ _).mono ?_; rintro e w' ⟨rfl, rfl⟩)
          go_round
          case rel => exact ⟨k + 1, by go_num, by omega, by rw [Hm.out]⟩
          case measure => simp [intOf]; omega
        · obtain rfl : k = l.length := by omega
          go_wp2_with fail
          go_ret
          exact ⟨by simp, Hb2.out⟩

end Go.Proofs.Ytplmpjdlgooffaa
