
/-
  What is proved: contracts of MixAll of the program and of its model, and the walk of its law. No condition beside what each theorem states.
-/
import Derived.Test.YtllddjmcemcdhaaGreatInts
namespace Go.Proofs.YtllddjmcemcdhaaGreat
open Go.ChangeShapes Go.WideShapes Go.ChangeAt Go.RowKit

/-- MixAll as a plain function, up to place k. -/
def mixTo (l : List Int) (k : Nat) : Int := (l.take k).foldl mixZ l.length
theorem fold_succ (f : Int → Int → Int) (x : Int) {l : List Int} {k : Nat} (h : k < l.length) : (l.take (k + 1)).foldl f x = f ((l.take k).foldl f x) (l.getD k 0) := by
  rw [List.take_succ_eq_append_getElem h, List.foldl_append]
  simp [List.getD, h]
theorem mixTo_succ {l : List Int} {k : Nat} (h : k < l.length) : mixTo l (k + 1) = mixZ (mixTo l k) (l.getD k 0) := fold_succ mixZ _ h

set_option maxHeartbeats 1000000 in
theorem iMixAll_in (a : Option Addr) (c : Nat) (l : List Int) (w : World) (hl : l.length ≤ 200) (hr : Ints w a l) :
    Calls Tryz.prog 83 #[.slice a l.length c] w fun e w' => e = .returned (.tuple #[.int .i64 (mixTo l l.length), .bool true]) ∧ w = w' := by
  have Hr := Lib.hid hr
  clear hr
  go_enter Tryz.func83, Tryz.ntmps83
  go_wp2_with fail
  go_loop [4, 14] (fun s i => ∃ k : Nat, i = .int .i64 k ∧ k ≤ l.length ∧ s = .int .i64 (mixTo l k)) (fun _ i => l.length - (intOf i).toNat)
  case atStart => exact ⟨0, rfl, by omega, rfl⟩
  case round =>
    obtain ⟨k, rfl, hk, rfl⟩ := hrel
    by_cases hlt : k < l.length
    · obtain ⟨b, o, rfl, hb1, hc1⟩ := Hr.out k hlt
      have Hm := Lib.hid (mixTo_succ hlt)
      clear Hr
      generalize l.getD k 0 = x at *
      go_wp2_with (go_at_call 112; refine (iMix _ _ _).mono ?_; rintro e w' ⟨rfl, rfl⟩)
      go_round
      case rel => exact ⟨k + 1, by go_num, by omega, by rw [Hm.out]⟩
      case measure => simp [intOf]; omega
    · obtain rfl : k = l.length := by omega
      go_wp2_with fail
      go_ret2
      exact ⟨rfl, rfl⟩

theorem iMixAll_out (a : Option Addr) (c n : Nat) (w : World) (hl : 200 < n) (hn : n ≤ 1048576) :
    Calls Tryz.prog 83 #[.slice a n c] w fun e w' => e = .returned (.tuple #[.int .i64 0, .bool false]) ∧ w = w' := by
  go_enter Tryz.func83, Tryz.ntmps83
  go_wp2_with fail
  go_ret2
  exact ⟨rfl, rfl⟩

set_option maxHeartbeats 1000000 in
theorem sl1MixAll (a : Option Addr) (c : Nat) (l : List Int) (w : World) (hl : l.length ≤ 200) (hr : Ints w a l) :
    Calls Tryz.prog 45 #[.slice a l.length c] w fun e w' => e = .returned (.int .i64 (mixTo l l.length)) ∧ w = w' := by
  have Hr := Lib.hid hr
  clear hr
  go_enter Tryz.func45, Tryz.ntmps45
  go_wp2_with fail
  go_loop [3, 10] (fun s i => ∃ k : Nat, i = .int .i64 k ∧ k ≤ l.length ∧ s = .int .i64 (mixTo l k)) (fun _ i => l.length - (intOf i).toNat)
  case atStart => exact ⟨0, rfl, by omega, rfl⟩
  case round =>
    obtain ⟨k, rfl, hk, rfl⟩ := hrel
    by_cases hlt : k < l.length
    · obtain ⟨b, o, rfl, hb1, hc1⟩ := Hr.out k hlt
      have Hm := Lib.hid (mixTo_succ hlt)
      clear Hr
      generalize l.getD k 0 = x at *
      go_wp2_with (go_at_call 68; refine (sMix _ _ _).mono ?_; rintro e w' ⟨rfl, rfl⟩)
      go_round
      case rel => exact ⟨k + 1, by go_num, by omega, by rw [Hm.out]⟩
      case measure => simp [intOf]; omega
    · obtain rfl : k = l.length := by omega
      go_wp2_with fail
      go_ret
      exact ⟨rfl, rfl⟩

/-- A row of numbers that came in. -/
def RowIn (k : IntKind) (w : World) (a : Option Addr) (len cap : Nat) (zs : List Int) : Prop :=
  (a = none ∧ len = 0 ∧ cap = 0 ∧ zs = []) ∨
  ∃ x, a = some x ∧ len ≤ cap ∧ cap ≤ maxLen ∧ zs.length = cap ∧ (∀ i, i < zs.length → w.cell? (x.add i) = some (.int k (zs.getD i 0))) ∧ ∀ n ∈ zs, (Lit.int k n).wf = true

theorem RowIn.ints {w : World} {a : Option Addr} {len cap : Nat} {zs : List Int} (h : RowIn .i64 w a len cap zs) : (zs.take len).length = len ∧ Ints w a (zs.take len) := by
  rcases h with ⟨rfl, rfl, rfl, rfl⟩ | ⟨x, rfl, h1, h2, h3, h4, _⟩
  · exact ⟨rfl, fun i hi => absurd hi (by simp)⟩
  · refine ⟨by simp; omega, fun i hi => ?_⟩
    have hi' : i < len := by simp at hi; omega
    obtain ⟨b, o, rfl, hc⟩ := ints_at h4 (by omega)
    have hci := hc i (by omega)
    refine ⟨b, o, rfl, World.block_lt_of_cell? w _ hci, ?_⟩
    rw [hci]
    simp [List.getD, hi']

end Go.Proofs.YtllddjmcemcdhaaGreat
