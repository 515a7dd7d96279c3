/-
  What is proved: contracts of MixAll of the program and of its model, and the walk of its law. No condition beside what each theorem states.
-/
import Derived.Test.YtplmpjdlgooffaaInts
namespace Go.Proofs.Ytplmpjdlgooffaa
open Go.ChangeShapes Go.WideShapes Go.ChangeAt Go.RowKit

/-- MixAll as a plain function, up to place k. -/
def mixTo (l : List Int) (k : Nat) : Int := (l.take k).foldl mixZ l.length
theorem fold_succ (f : Int → Int → Int) (x : Int) {l : List Int} {k : Nat} (h : k < l.length) : (l.take (k + 1)).foldl f x = f ((l.take k).foldl f x) (l.getD k 0) := by
  rw [List.take_succ_eq_append_getElem h, List.foldl_append]
  simp [List.getD, h]
theorem mixTo_succ {l : List Int} {k : Nat} (h : k < l.length) : mixTo l (k + 1) = mixZ (mixTo l k) (l.getD k 0) := fold_succ mixZ _ h

set_option maxHeartbeats 1000000 in
theorem lEqIntS (a a' : Option Addr) (c c' : Nat) (l : List Int) (w : World) (hl : l.length ≤ 1048576) (hr : Ints w a l) (hr' : Ints w a' l) :
    Calls Try.prog 44 #[.slice a l.length c, .slice a' l.length c'] w fun e w' => e = .returned (.bool true) ∧ Below w.heap.size w w' := by
  have Hr := Lib.hid hr
  have Hr' := Lib.hid hr'
  clear hr hr'
  go_enter Try.func44, Try.ntmps44
  go_wp2_with fail
  go_loopw [5] (fun i wr => ∃ k : Nat, i = .int .i64 k ∧ k ≤ l.length ∧ Below w.heap.size w wr) (fun i _ => l.length - (intOf i).toNat)
  case atStart => exact ⟨0, rfl, by omega, Below.refl _ _⟩
  case round =>
    obtain ⟨k, rfl, hk, hbel⟩ := hrel
    by_cases hlt : k < l.length
    · obtain ⟨b, o, rfl, hb1, hc1⟩ := Hr.out k hlt
      obtain ⟨b', o', rfl, hb1', hc1'⟩ := Hr'.out k hlt
      have e1 := (hbel.cell (p := ⟨b, o + k, none⟩) hb1).trans hc1
      have e2 := (hbel.cell (p := ⟨b', o' + k, none⟩) hb1').trans hc1'
      have i1 : (0 : Int) ≤ (k : Int) := by omega
      have i2 : (k : Int) < (l.length : Int) := by omega
      have Hbel := Lib.hid hbel
      clear hbel hc1 hc1' Hr Hr'
      generalize l.getD k 0 = x at *
      go_wp2_with fail
      go_quiet (fail)
      go_wp2_with fail
      exact ⟨⟨k + 1, by congr 1, by omega, belowN Hbel.out _⟩, by simp [intOf]; omega⟩
    · go_wp2_with fail
      go_ret
      exact ⟨rfl, hbel⟩

set_option maxHeartbeats 1000000 in
theorem iMixAll_in (a : Option Addr) (c : Nat) (l : List Int) (w : World) (hl : l.length ≤ 200) (hr : Ints w a l) :
    Calls Try.prog 41 #[.slice a l.length c] w fun e w' => e = .returned (.tuple #[.int .i64 (mixTo l l.length), .bool true]) ∧ w = w' := by
  have Hr := Lib.hid hr
  clear hr
  go_enter Try.func41, Try.ntmps41
  go_wp2_with fail
  go_loop [4, 14] (fun s i => ∃ k : Nat, i = .int .i64 k ∧ k ≤ l.length ∧ s = .int .i64 (mixTo l k)) (fun _ i => l.length - (intOf i).toNat)
  case atStart => exact ⟨0, rfl, by omega, rfl⟩
  case round =>
    obtain ⟨k, rfl, hk, rfl⟩ := hrel
    by_cases hlt : k < l.length
    · obtain ⟨b, o, rfl, hb1, hc1⟩ := Hr.out k hlt
      have Hm := Lib.hid (mixTo_succ hlt)
      clear Hr
      generalize l.getD k 0 = x at *
      go_wp2_with (go_at_call 38; refine (iMix _ _ _).mono ?_; rintro e w' ⟨rfl, rfl⟩)
      go_round
      case rel => exact ⟨k + 1, by go_num, by omega, by rw [Hm.out]⟩
      case measure => simp [intOf]; omega
    · obtain rfl : k = l.length := by omega
      go_wp2_with fail
      go_ret2
      exact ⟨rfl, rfl⟩

theorem iMixAll_out (a : Option Addr) (c n : Nat) (w : World) (hl : 200 < n) (hn : n ≤ 1048576) :
    Calls Try.prog 41 #[.slice a n c] w fun e w' => e = .returned (.tuple #[.int .i64 0, .bool false]) ∧ w = w' := by
  go_enter Try.func41, Try.ntmps41
  go_wp2_with fail
  go_ret2
  exact ⟨rfl, rfl⟩

set_option maxHeartbeats 1000000 in
theorem sl1MixAll (a : Option Addr) (c : Nat) (l : List Int) (w : World) (hl : l.length ≤ 200) (hr : Ints w a l) :
    Calls Try.prog 67 #[.slice a l.length c] w fun e w' => e = .returned (.int .i64 (mixTo l l.length)) ∧ w = w' := by
  have Hr := Lib.hid hr
  clear hr
  go_enter Try.func67, Try.ntmps67
  go_wp2_with fail
  go_loop [3, 10] (fun s i => ∃ k : Nat, i = .int .i64 k ∧ k ≤ l.length ∧ s = .int .i64 (mixTo l k)) (fun _ i => l.length - (intOf i).toNat)
  case atStart => exact ⟨0, rfl, by omega, rfl⟩
  case round =>
    obtain ⟨k, rfl, hk, rfl⟩ := hrel
    by_cases hlt : k < l.length
    · obtain ⟨b, o, rfl, hb1, hc1⟩ := Hr.out k hlt
      have Hm := Lib.hid (mixTo_succ hlt)
      clear Hr
      generalize l.getD k 0 = x at *
      go_wp2_with (go_at_call 39; refine (sMix _ _ _).mono ?_; rintro e w' ⟨rfl, rfl⟩)
      go_round
      case rel => exact ⟨k + 1, by go_num, by omega, by rw [Hm.out]⟩
      case measure => simp [intOf]; omega
    · obtain rfl : k = l.length := by omega
      go_wp2_with fail
      go_ret
      exact ⟨rfl, rfl⟩

theorem sMixAll_in (a : Option Addr) (c : Nat) (l : List Int) (w : World) (hl : l.length ≤ 200) (hr : Ints w a l) :
    Calls Try.prog 42 #[.slice a l.length c] w fun e w' => e = .returned (.tuple #[.int .i64 (mixTo l l.length), .bool true]) ∧ w = w' := by
  have Hr := Lib.hid hr
  clear hr
  go_enter Try.func42, Try.ntmps42
  go_wp2_with (go_at_call 67; refine (sl1MixAll _ _ _ _ hl Hr.out).mono ?_; rintro e w' ⟨rfl, rfl⟩)
  go_ret2
  exact ⟨rfl, rfl⟩

theorem sMixAll_out (a : Option Addr) (c n : Nat) (w : World) (hl : 200 < n) (hn : n ≤ 1048576) :
    Calls Try.prog 42 #[.slice a n c] w fun e w' => e = .returned (.tuple #[.int .i64 0, .bool false]) ∧ w = w' := by
  go_enter Try.func42, Try.ntmps42
  go_wp2_with fail
  go_ret2
  exact ⟨rfl, rfl⟩

theorem mixAll_both (l : List Int) (hl : l.length ≤ 1048576) : ∃ (x : Int) (ok : Bool),
    (∀ (a : Option Addr) (c : Nat) (w : World), Ints w a l → Calls Try.prog 42 #[.slice a l.length c] w fun e w' => e = .returned (.tuple #[.int .i64 x, .bool ok]) ∧ w = w') ∧
    (∀ (a : Option Addr) (c : Nat) (w : World), Ints w a l → Calls Try.prog 41 #[.slice a l.length c] w fun e w' => e = .returned (.tuple #[.int .i64 x, .bool ok]) ∧ w = w') ∧ (ok = true ↔ l.length ≤ 200) ∧ (ok = true → x = mixTo l l.length) := by
  by_cases h : l.length ≤ 200
  · exact ⟨mixTo l l.length, true, fun a c w hr => sMixAll_in a c l w h hr, fun a c w hr => iMixAll_in a c l w h hr, ⟨fun _ => h, fun _ => rfl⟩, fun _ => rfl⟩
  · exact ⟨0, false, fun a c w _ => sMixAll_out a c _ w (by omega) hl, fun a c w _ => iMixAll_out a c _ w (by omega) hl, ⟨(fun h => by cases h), fun h' => absurd h' h⟩, (fun h => by cases h)⟩

/-- A row of numbers that came in. -/
def RowIn (k : IntKind) (w : World) (a : Option Addr) (len cap : Nat) (zs : List Int) : Prop :=
  (a = none ∧ len = 0 ∧ cap = 0 ∧ zs = []) ∨
  ∃ x, a = some x ∧ len ≤ cap ∧ cap ≤ maxLen ∧ zs.length = cap ∧ (∀ i, i < zs.length → w.cell? (x.add i) = some (.int k (zs.getD i 0))) ∧ ∀ n ∈ zs, (Lit.int k n).wf = true

theorem RowIn.ints {w : World} {a : Option Addr} {len cap : Nat} {zs : List Int} (h : RowIn .i64 w a len cap zs) : (zs.take len).length = len ∧ Ints w a (zs.take len) := by
  rcases h with ⟨rfl, rfl, rfl, rfl⟩ | ⟨x, rfl, h1, h2, h3, h4, _⟩
  · exact ⟨rfl, fun i hi => absurd hi (by simp)⟩
  · refine ⟨by simp; omega, fun i hi => ?_⟩
    have hi' : i < len := by simp at hi; omega
    obtain ⟨b, o, rfl, hc⟩ := ints_at h4 (by omega)
    have hci := hc i (by omega)
    refine ⟨b, o, rfl, World.block_lt_of_cell? w _ hci, ?_⟩
    rw [hci]
    simp [List.getD, hi']

-- shell: FnExactMixAll
set_option maxHeartbeats 1000000 in
theorem law_FnExactMixAll (a : Option Addr) (len cap : Nat) (zs : List Int) (w : World) (hrow : RowIn .i64 w a len cap zs) :
    Calls Try.prog 14 #[.slice a len cap] w fun e w' => e = .returned (.bool true) ∧ Below w.heap.size w w' := by
  obtain ⟨hlen, hr⟩ := hrow.ints
  generalize zs.take len = l at *
  subst hlen
  by_cases h : 1048576 < l.length
  · have hcap : l.length ≤ 9223372036854775807 := by
      rcases hrow with ⟨_, h, _⟩ | ⟨_, _, h1, h2, _⟩
      · omega
      · unfold maxLen at h2; omega
    clear hrow hr
    go_enter Try.func14, Try.ntmps14
    go_wp2_with fail
    go_ret
    exact ⟨rfl, Below.refl _ _⟩
  · have hl : l.length ≤ 1048576 := by omega
    obtain ⟨x, ok, hS, hI, _, _⟩ := mixAll_both l hl
    have HS := Lib.hid hS
    have HI := Lib.hid hI
    have Hr := Lib.hid hr
    clear hS hI hrow hr
    go_enter Try.func14, Try.ntmps14
    go_wp2_with fail
    refine (lToIntS a cap l _ hl Hr.out).mono ?_
    rintro e w1 ⟨rfl, hb1, hw1⟩
    have Hb1 := Lib.hid hb1
    have Hw1 := Lib.hid hw1
    clear hb1 hw1
    go_wp2_with fail
    refine (HS.out _ _ _ (Ints.ofBox Hb1.out (Nat.le_refl _))).mono ?_
    rintro e w' ⟨rfl, rfl⟩
    go_wp2_with fail
    refine (lToIntS a cap l _ hl (Hr.out.below Hw1.out)).mono ?_
    rintro e w2 ⟨rfl, hb2, hw2⟩
    have Hb2 := Lib.hid hb2
    have Hw2 := Lib.hid hw2
    clear hb2 hw2
    go_wp2_with fail
    refine (HI.out _ _ _ (Ints.ofBox Hb2.out (Nat.le_refl _))).mono ?_
    rintro e w' ⟨rfl, rfl⟩
    have Hw12 := Lib.hid (Hw1.out.trans (Hw2.out.mono Hw1.out.size))
    go_wp2_with fail
    refine (lToIntS a cap l _ hl (Hr.out.below Hw12.out)).mono ?_
    rintro e w3 ⟨rfl, hb3, hw3⟩
    have Hb3 := Lib.hid hb3
    have Hw3 := Lib.hid hw3
    have Hb2' := Lib.hid (Hb2.out.below hw3 Hb2.out.lt)
    clear hb3 hw3
    go_wp2_with fail
    refine (lEqIntS _ _ _ _ l _ hl (Ints.ofBox Hb2'.out (Nat.le_refl _)) (Ints.ofBox Hb3.out (Nat.le_refl _))).mono ?_
    rintro e w4 ⟨rfl, hw4⟩
    go_wp2_with fail
    go_ret
    have Hw13 := Hw12.out.trans (Hw3.out.mono Hw12.out.size)
    exact ⟨rfl, Hw13.trans (hw4.mono Hw13.size)⟩

end Go.Proofs.Ytplmpjdlgooffaa
