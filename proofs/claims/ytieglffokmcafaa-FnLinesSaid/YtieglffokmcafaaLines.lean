
/-
  What is proved: contracts of the model's draws of chapter 2 that FnLines takes, and the walk of that law. No condition beside what each theorem states.
-/
import Derived.Test.YtieglffokmcafaaDrawStr
import Derived.Test.YtieglffokmcafaaMixes
import Derived.Test.YtieglffokmcafaaNumOf2
namespace Go.Proofs.Ytieglffokmcafaa
open Go.ChangeShapes Go.WideShapes Go.ChangeAt Go.RowKit

def pieces : List ByteArray := [⟨#[120]⟩, ⟨#[77, 79, 68, 85, 76, 69]⟩, ⟨#[84, 49]⟩, ⟨#[49, 50]⟩, ⟨#[48, 70, 70, 72]⟩, ⟨#[40, 42, 32, 97, 32, 40, 42, 32, 98, 32, 42, 41, 32, 42, 41]⟩, ⟨#[59]⟩, ⟨#[42]⟩, ⟨#[45]⟩, ⟨#[58]⟩, ⟨#[61]⟩, ⟨#[69, 78, 68]⟩, ⟨#[40]⟩, ⟨#[41]⟩, ⟨#[46]⟩, ⟨#[49, 65]⟩]
def gaps : List ByteArray := [⟨#[32]⟩, ⟨#[]⟩, ⟨#[10]⟩]

set_option maxRecDepth 100000 in
set_option maxHeartbeats 2000000 in
theorem cWords (g k : Nat) (w : World) (hk : k ≤ 900000) (hc : Cur w g k) :
    Calls Try.prog 13 #[.pointer (some ⟨g, 0, none⟩)] w (DrawnS (fun s => s.size ≤ 112) g (k + 40) w) := by
  have Hc := Lib.hid hc
  clear hc
  go_enter Try.func13, Try.ntmps13
  go_wp2_with fail
  refine (cPick g k 8 _ (by omega) (by omega) (by omega) Hc.out).mono ?_
  rintro e w1 ⟨x, ⟨hx0, hx1⟩, rfl, hc1, ho1⟩
  obtain ⟨n0, rfl⟩ := Int.eq_ofNat_of_zero_le hx0
  have Hc1 := Lib.hid hc1
  have Ho1 := Lib.hid ho1
  clear hc1 ho1
  go_wp2_with fail
  go_loopw [3, 4] (fun s i w' => ∃ (n : Nat) (t : ByteArray), n ≤ 7 ∧ s = .string t ∧ i = .int .i64 n ∧ t.size + 16 * n ≤ 112 ∧ Cur w' g (k + 2 + 4 * (7 - n)) ∧ Only g w w') (fun _ i _ => (intOf i).toNat)
  case atStart => exact ⟨n0, _, by omega, rfl, rfl, by show 0 + 16 * n0 ≤ 112; omega, Hc1.out.more (by omega), Ho1.out⟩
  case round =>
    obtain ⟨n, t, hn, rfl, rfl, ht, hcr, hor⟩ := hrel
    have Hcr := Lib.hid hcr
    have Hor := Lib.hid hor
    clear hcr hor Hc1 Ho1
    by_cases h0 : n = 0
    · subst h0
      go_wp2_with fail
      go_ret
      exact ⟨t, by omega, rfl, Hcr.out.more (by omega), Hor.out⟩
    · have d1 : decide ((n : Int) > 0) = true := decide_eq_true (by omega)
      obtain ⟨m, rfl⟩ : ∃ m, n = m + 1 := ⟨n - 1, by omega⟩
      clear h0
      go_wp2_with fail
      refine (cOfLit g _ pieces 15 _ _ (by omega) (by decide) (by decide) Hcr.out (by decide) rfl).mono ?_
      rintro e w2 ⟨s1, hs1, rfl, hc2, ho2⟩
      have Hc2 := Lib.hid hc2
      have Ho2 := Lib.hid ho2
      clear hc2 ho2
      go_wp2_with fail
      refine (cOfLit g _ gaps 1 _ _ (by omega) (by decide) (by decide) Hc2.out (by decide) rfl).mono ?_
      rintro e w3 ⟨s2, hs2, rfl, hc3, ho3⟩
      have Hc3 := Lib.hid hc3
      have Ho3 := Lib.hid ho3
      clear hc3 ho3
      have hz1 : ¬ 9223372036854775807 < s1.size + s2.size := by omega
      have hz2 : ¬ 9223372036854775807 < t.size + (s1 ++ s2).size := by rw [ByteArray.size_append]; omega
      have hz3 : ¬ 9223372036854775807 < t.size + (s1.size + s2.size) := by omega
      go_wp2_with fail
      go_roundw
      case rel => exact ⟨m, t ++ (s1 ++ s2), by omega, rfl, by go_num, by rw [ByteArray.size_append, ByteArray.size_append]; omega, Hc3.out.more (by omega), (Hor.out.trans Ho2.out).trans Ho3.out⟩
      case measure => simp [intOf]

def LineDrawn (w : World) (e : Ending) (w' : World) : Prop := ∃ (s : ByteArray) (n : Int), s.size ≤ 112 ∧ -1 ≤ n ∧ n ≤ 1000 ∧ e = .returned (.tuple #[.string s, .int .i64 n]) ∧ Below w.heap.size w w'

set_option maxHeartbeats 1000000 in
theorem dLineOf (a : Option Addr) (len cap : Nat) (w : World) (h : Code w a len) : Calls Try.prog 7 #[.slice a len cap] w (LineDrawn w) := by
  have H := Lib.hid h
  clear h
  go_enter Try.func7, Try.ntmps7
  go_wp2_with fail
  refine (cWords _ 0 _ (by decide) H.out.cur).mono ?_
  rintro e w1 ⟨s, hs, rfl, hc1, ho1⟩
  have Hc1 := Lib.hid hc1
  have Ho1 := Lib.hid ho1
  clear hc1 ho1
  go_wp2_with fail
  refine (cPick _ _ ((s.size : Int) + 2) _ (by omega) (by omega) (by omega) Hc1.out).mono ?_
  rintro e w2 ⟨x, ⟨hx0, hx1⟩, rfl, hc2, ho2⟩
  have Hc2 := Lib.hid hc2
  have Ho2 := Lib.hid ho2
  clear hc2 ho2
  go_wp2_with fail
  refine (cPick _ _ 20 _ (by omega) (by omega) (by omega) Hc2.out).mono ?_
  rintro e w3 ⟨y, ⟨hy0, hy1⟩, rfl, hc3, ho3⟩
  have Ho3 := Lib.hid ho3
  clear hc3 ho3
  have hq : y.tdiv 19 = y / 19 := Int.tdiv_eq_ediv_of_nonneg hy0
  have hq0 : 0 ≤ y / 19 := by omega
  have hq1 : y / 19 ≤ 1 := by omega
  generalize y / 19 = q at *
  go_wp2_with fail
  go_ret2
  exact ⟨s, x - q, hs, by omega, by omega, by first | rfl | go_num, freshOnly ((Ho1.out.trans Ho2.out).trans Ho3.out)⟩

theorem dNumberOf (a : Option Addr) (len cap : Nat) (w : World) (h : Code w a len) : Calls Try.prog 10 #[.slice a len cap] w (StrDrawn 11 w) := by
  have H := Lib.hid h
  clear h
  go_enter Try.func10, Try.ntmps10
  go_wp2_with fail
  refine (cOfLit _ 0 [⟨#[48]⟩, ⟨#[48, 48, 55]⟩, ⟨#[57, 57, 57, 57, 57, 57, 57, 57, 57]⟩, ⟨#[49, 48, 48, 48, 48, 48, 48, 48, 48, 48]⟩, ⟨#[48, 70, 70, 72]⟩, ⟨#[70, 70, 72]⟩, ⟨#[49, 65, 72]⟩, ⟨#[49, 65]⟩, ⟨#[72]⟩, ⟨#[]⟩, ⟨#[48, 70, 70, 70, 70, 70, 70, 70, 72]⟩, ⟨#[49, 50, 51, 52, 53, 54, 55, 56, 72]⟩, ⟨#[57, 72]⟩] 11 _ _ (by decide) (by decide) (by decide) H.out.cur (by decide) (by simp)).mono ?_
  rintro e w1 ⟨s, hs, rfl, hc1, ho1⟩
  have Ho1 := Lib.hid ho1
  clear hc1 ho1
  go_wp2_with fail
  go_ret
  exact ⟨s, hs, rfl, freshOnly Ho1.out⟩

-- shell: FnLines
set_option maxRecDepth 100000 in
set_option maxHeartbeats 2000000 in
theorem law_FnLines (a : Option Addr) (len cap : Nat) (zs : List Int) (a' : Option Addr) (len' cap' : Nat) (zs' : List Int) (w : World) (h : RowIn .u8 w a len cap zs) (h' : RowIn .u8 w a' len' cap' zs') :
    Calls Try.prog 3 #[.slice a len cap, .slice a' len' cap'] w fun e w' => e = .returned (.bool true) ∧ Below w.heap.size w w' := by
  by_cases hbig : 1048576 < len + len'
  · have l1 := h.len
    clear h h'
    go_enter Try.func3, Try.ntmps3
    go_wp2_with (go_at_call 6; refine (lBig_yes _ _ _ _ _ _ _ hbig l1).mono ?_; rintro e w' ⟨rfl, rfl⟩)
    go_ret
    exact ⟨rfl, Below.refl _ _⟩
  · have H := Lib.hid (h.code (by omega))
    have H' := Lib.hid (h'.code (by omega))
    clear h h'
    go_enter Try.func3, Try.ntmps3
    go_wp2_with (go_at_call 6; refine (lBig_no _ _ _ _ _ _ _ (by omega)).mono ?_; rintro e w' ⟨rfl, rfl⟩)
    refine (dLineOf a len cap _ H.out).mono ?_
    rintro e w1 ⟨s, n, hs, hn0, hn1, rfl, hb1⟩
    have Hb1 := Lib.hid hb1
    have H1 := Lib.hid (H'.out.below hb1)
    clear hb1 H H'
    obtain ⟨l, f, ok, hS, hI, hok⟩ := lineOf_both s n
    have HS := Lib.hid hS
    have HI := Lib.hid hI
    have Hok := Lib.hid hok
    clear hS hI hok
    go_wp2_with fail
    refine (HI.out _).mono ?_
    rintro e w' ⟨rfl, rfl⟩
    go_wp2_with fail
    refine (HS.out _).mono ?_
    rintro e w' ⟨rfl, rfl⟩
    clear HS HI
    cases ok
    · go_wp2_with fail
      refine (dNumberOf a' len' cap' _ H1.out).mono ?_
      rintro e w2 ⟨v, hv, rfl, hb2⟩
      have Hb2 := Lib.hid (Hb1.out.trans (hb2.mono Hb1.out.size))
      clear hb2
      obtain ⟨m, ok2, hS, hI⟩ := numberOf_both v (by unfold maxLen; omega)
      have HS := Lib.hid hS
      have HI := Lib.hid hI
      clear hS hI
      go_wp2_with fail
      refine (HI.out _).mono ?_
      rintro e w3 ⟨rfl, hb3⟩
      have Hb3 := Lib.hid (Hb2.out.trans (hb3.mono Hb2.out.size))
      clear hb3
      go_wp2_with fail
      refine (HS.out _).mono ?_
      rintro e w4 ⟨rfl, rfl⟩
      clear HS HI
      have d9 : decide (0 ≤ (m : Int)) = true := decide_eq_true (by omega)
      go_wp2_with fail
      go_ret
      exact ⟨by simp, Hb3.out⟩
    · obtain ⟨k, rfl, hk, hk2, rfl, rfl⟩ := Hok.out rfl
      clear Hok
      have lc := nlCount_le s k
      have lf := nlFrom_le s k
      go_wp2_with fail
      go_loop [13, 14] (fun m i => ∃ j : Nat, j ≤ k ∧ i = .int .i64 j ∧ m = .int .i64 ((nlCount s j : Int) + 1)) (fun _ i => k - (intOf i).toNat)
      case atStart => exact ⟨0, by omega, rfl, rfl⟩
      case round =>
        obtain ⟨j, hj, rfl, rfl⟩ := hrel
        have lcj := nlCount_le s j
        by_cases hlt : j < k
        · have hjs : j < s.size := by omega
          have ek := byteAt_get s j hjs
          have d1 : decide ((j : Int) < (k : Int)) = true := decide_eq_true (by omega)
          have d2 : decide ((j : Int) < (s.size : Int)) = true := decide_eq_true (by omega)
          by_cases hc : byteAt s j = 10
          · have e1 := Lib.hid (show nlCount s (j + 1) = nlCount s j + 1 by simp [nlCount, hc])
            rw [hc] at ek
            clear hc
            go_wp2_with fail
            go_round
            case rel => exact ⟨j + 1, by omega, by go_num, by rw [e1.out]; go_num⟩
            case measure => simp [intOf]; omega
          · have e1 := Lib.hid (show nlCount s (j + 1) = nlCount s j by simp [nlCount, hc])
            have hb : (byteAt s j == 10) = false := beq_eq_false_iff_ne.2 hc
            rw [← ek] at hb
            clear hc ek
            go_wp2_with fail
            go_round
            case rel => exact ⟨j + 1, by omega, by go_num, by rw [e1.out]⟩
            case measure => simp [intOf]; omega
        · obtain rfl : j = k := by omega
          have d1 : decide ((j : Int) < (j : Int)) = false := decide_eq_false (by omega)
          have d3 : decide ((j : Int) - (nlFrom s j : Int) < 0) = false := decide_eq_false (by omega)
          have d4 : decide ((j : Int) < (j : Int) - (nlFrom s j : Int)) = false := decide_eq_false (by omega)
          go_wp2_with fail
          refine (dNumberOf a' len' cap' _ H1.out).mono ?_
          rintro e w2 ⟨v, hv, rfl, hb2⟩
          have Hb2 := Lib.hid (Hb1.out.trans (hb2.mono Hb1.out.size))
          clear hb2
          obtain ⟨m, ok2, hS, hI⟩ := numberOf_both v (by unfold maxLen; omega)
          have HS := Lib.hid hS
          have HI := Lib.hid hI
          clear hS hI
          go_wp2_with fail
          refine (HI.out _).mono ?_
          rintro e w3 ⟨rfl, hb3⟩
          have Hb3 := Lib.hid (Hb2.out.trans (hb3.mono Hb2.out.size))
          clear hb3
          go_wp2_with fail
          refine (HS.out _).mono ?_
          rintro e w4 ⟨rfl, rfl⟩
          clear HS HI
          have d9 : decide (0 ≤ (m : Int)) = true := decide_eq_true (by omega)
          go_wp2_with fail
          go_ret
          exact ⟨by simp, Hb3.out⟩

end Go.Proofs.Ytieglffokmcafaa
