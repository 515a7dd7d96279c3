
/-
  What is proved: contracts of RoundFingers and TypeFinger, the program's and the model's. No condition beside what each theorem states.
-/
import Derived.Test.YtkbgkfmflieidaaRoundsS
import Derived.Test.YtkbgkfmflieidaaRoundsI
import Derived.Test.YtkbgkfmflieidaaAt
namespace Go.Proofs.Ytkbgkfmflieidaa
open Go.ChangeShapes Go.WideShapes Go.ChangeAt Go.RowKit
set_option maxRecDepth 100000

/-- What RoundFingers tells. -/
def rfAns (l : List TypeD) (x : Int) (m : List Int) (q : Bool) : Prop := ((good l ∧ 0 ≤ x ∧ x ≤ 25) ∧ m = roundsZ l x.toNat ∧ q = true) ∨ (¬ (good l ∧ 0 ≤ x ∧ x ≤ 25) ∧ m = [] ∧ q = false)
theorem rfAns_ex (l : List TypeD) (x : Int) : ∃ m q, rfAns l x m q := by
  by_cases h : good l ∧ 0 ≤ x ∧ x ≤ 25
  · exact ⟨_, _, .inl ⟨h, rfl, rfl⟩⟩
  · exact ⟨_, _, .inr ⟨h, rfl, rfl⟩⟩
theorem rfAns_len {l : List TypeD} {x : Int} {m : List Int} {q : Bool} (h : rfAns l x m q) : m.length ≤ 24 := by
  rcases h with ⟨h, rfl, _⟩ | ⟨_, rfl, _⟩
  · rw [roundsZ_len]; exact h.1.1.most
  · exact Nat.zero_le _

open Classical in
noncomputable def tfB (l : List TypeD) (x : Int) : Bool := decide (atP l x)
open Classical in
noncomputable def tfA (l : List TypeD) (x : Int) : Int := if atP l x then (roundsZ l 25).getD x.toNat 0 else 0
theorem tf_in {l : List TypeD} {x : Int} (h : atP l x) : tfB l x = true ∧ tfA l x = (roundsZ l 25).getD x.toNat 0 := ⟨by unfold tfB; simpa using h, if_pos h⟩
theorem tf_out {l : List TypeD} {x : Int} (h : ¬ atP l x) : tfB l x = false ∧ tfA l x = 0 := ⟨by unfold tfB; simpa using h, if_neg h⟩

set_option maxHeartbeats 4000000 in
theorem sTypeFinger (a : Option Addr) (c : Nat) (l : List TypeD) (x : Int) (w : World) (hl : l.length ≤ 1048576) (hc : l.length ≤ c) (hc2 : c ≤ maxLen) (hm : ∀ t ∈ l, t.mod) (hr : Rows typeS Any w a l) :
    Calls Try.prog 17 #[.slice a l.length c, .int .i64 x] w fun e w' => e = .returned (.tuple #[.int .i64 (tfA l x), .bool (tfB l x)]) ∧ Below w.heap.size w w' := by
  have Hr := Lib.hid hr
  have HA := Lib.hid (sl3At a c l x w hl hc hc2 hm hr)
  clear hr hm
  by_cases hA : atP l x
  · rw [atB_true hA] at HA
    obtain ⟨h1, h2⟩ := tf_in hA
    rw [h1, h2]
    obtain ⟨n, rfl⟩ := Int.eq_ofNat_of_zero_le hA.2.1
    have h24 := hA.1.1.most
    have hn : n < l.length := by have := hA.2.2; omega
    have Hg := Lib.hid hA.1
    have Hlen := Lib.hid (roundsZ_len l 25)
    have HS := Lib.hid (fun W (h : Rows typeS Any W a l) => sl8Rounds a c l 25 W h24 (fun n hn => Hg.out.1.rt n hn) (by omega) h)
    clear hA h1 h2
    rw [show ((n : Int)).toNat = n from rfl]
    generalize roundsZ l 25 = m at *
    obtain ⟨z, hz⟩ : ∃ z, m.getD n 0 = z := ⟨_, rfl⟩
    rw [hz]
    have Hz := Lib.hid hz
    clear hz
    go_enter Try.func17, Try.ntmps17
    go_wp2_with (go_at_call 36; refine HA.out.mono ?_; rintro e w1 ⟨rfl, hb1⟩)
    have B1 := Lib.hid hb1
    clear hb1
    refine (HS.out _ (Hr.out.below B1.out)).mono ?_
    rintro e w2 ⟨v, rfl, hown, hb2⟩
    obtain ⟨va, vc, rfl, _, hnn⟩ := hown.nums
    have B2 := Lib.hid (B1.out.trans (hb2.mono B1.out.size))
    have hnm : n < m.length := by rw [Hlen.out]; exact hn
    obtain ⟨b, o, hv, hx1, hx2⟩ := hnn n hnm
    clear hx1 hx2
    subst hv
    have e0 := (hnn.at n hnm).2
    have i1 : (0 : Int) ≤ (n : Int) := by omega
    have i2 : (n : Int) < (m.length : Int) := by omega
    rw [Hz.out] at e0
    clear hown hb2 hnn
    go_wp2_with fail
    go_ret2
    exact ⟨rfl, B2.out⟩
  · rw [atB_false hA] at HA
    obtain ⟨h1, h2⟩ := tf_out hA
    rw [h1, h2]
    go_enter Try.func17, Try.ntmps17
    go_wp2_with (go_at_call 36; refine HA.out.mono ?_; rintro e w1 ⟨rfl, hb1⟩)
    go_ret2
    exact ⟨rfl, hb1⟩

set_option maxHeartbeats 4000000 in
theorem iTypeFinger (a : Option Addr) (c : Nat) (l : List TypeD) (x : Int) (w : World) (hl : l.length ≤ 1048576) (hc : l.length ≤ c) (hc2 : c ≤ maxLen) (hm : ∀ t ∈ l, t.mod) (hr : Rows typeS Any w a l) :
    Calls Try.prog 15 #[.slice a l.length c, .int .i64 x] w fun e w' => e = .returned (.tuple #[.int .i64 (tfA l x), .bool (tfB l x)]) ∧ Below w.heap.size w w' := by
  have Hr := Lib.hid hr
  have HG := Lib.hid (iGoodTypes a c l w hl hc hc2 hm hr)
  clear hr hm
  by_cases hg : good l
  · rw [goodB_true hg] at HG
    by_cases hx : 0 ≤ x ∧ x < (l.length : Int)
    · have hA : atP l x := ⟨hg, hx⟩
      obtain ⟨h1, h2⟩ := tf_in hA
      rw [h1, h2]
      obtain ⟨n, rfl⟩ := Int.eq_ofNat_of_zero_le hx.1
      have h24 := hg.1.most
      have hn : n < l.length := by omega
      have Hg := Lib.hid hg
      have Hlen := Lib.hid (roundsZ_len l 25)
      have HS := Lib.hid (fun W (h : Rows typeS Any W a l) => iSumsBehind a c l 25 W h24 (fun n hn => Hg.out.1.rt n hn) (by omega) h)
      have hd := decide_eq_true hx
      clear hA h1 h2 hx hg
      rw [show ((n : Int)).toNat = n from rfl]
      generalize roundsZ l 25 = m at *
      obtain ⟨z, hz⟩ : ∃ z, m.getD n 0 = z := ⟨_, rfl⟩
      rw [hz]
      have Hz := Lib.hid hz
      clear hz
      go_enter Try.func15, Try.ntmps15
      go_wp2_with (first | (go_at_call 21; refine HG.out.mono ?_; rintro e w1 ⟨rfl, hb1⟩) | (go_at_call 34; refine (iTypeNumber a c l.length _ _).mono ?_; rw [hd]; rintro e w' ⟨rfl, rfl⟩))
      have B1 := Lib.hid hb1
      clear hb1
      refine (HS.out _ (Hr.out.below B1.out)).mono ?_
      rintro e w2 ⟨v, rfl, hown, hb2⟩
      obtain ⟨va, vc, rfl, _, hnn⟩ := hown.nums
      have B2 := Lib.hid (B1.out.trans (hb2.mono B1.out.size))
      have hnm : n < m.length := by rw [Hlen.out]; exact hn
      obtain ⟨b, o, hv, hx1, hx2⟩ := hnn n hnm
      clear hx1 hx2
      subst hv
      have e0 := (hnn.at n hnm).2
      have i1 : (0 : Int) ≤ (n : Int) := by omega
      have i2 : (n : Int) < (m.length : Int) := by omega
      rw [Hz.out] at e0
      clear hown hb2 hnn
      go_wp2_with fail
      go_ret2
      exact ⟨rfl, B2.out⟩
    · obtain ⟨h1, h2⟩ := tf_out (l := l) (x := x) (fun h => hx h.2)
      rw [h1, h2]
      have hd := decide_eq_false hx
      clear hg
      go_enter Try.func15, Try.ntmps15
      go_wp2_with (first | (go_at_call 21; refine HG.out.mono ?_; rintro e w1 ⟨rfl, hb1⟩) | (go_at_call 34; refine (iTypeNumber a c l.length _ _).mono ?_; rw [hd]; rintro e w' ⟨rfl, rfl⟩))
      go_ret2
      exact ⟨rfl, hb1⟩
  · rw [goodB_false hg] at HG
    obtain ⟨h1, h2⟩ := tf_out (l := l) (x := x) (fun h => hg h.1)
    rw [h1, h2]
    go_enter Try.func15, Try.ntmps15
    go_wp2_with (go_at_call 21; refine HG.out.mono ?_; rintro e w1 ⟨rfl, hb1⟩)
    go_ret2
    exact ⟨rfl, hb1⟩
end Go.Proofs.Ytkbgkfmflieidaa
