/-
  What is proved: contracts of the model's reader of numbers, and the walk of ReadNum's law. No condition beside what each theorem states.
-/
import Derived.Test.YtplmpjdlgooffaaSNum
namespace Go.Proofs.Ytplmpjdlgooffaa
open Go.ChangeShapes Go.WideShapes Go.ChangeAt Go.RowKit

/-- What is answered and left behind a number that was read up to place m. -/
def NumPost (g : Nat) (b : ByteArray) (m n : Nat) (ok : Bool) (w : World) (e : Ending) (w' : World) : Prop :=
  e = .returned (.int .i64 (if ok then openZ n else 0)) ∧ (∃ k' : Int, (ok = true → k' = m) ∧ Box w' g 69 (rd b k' (!ok))) ∧ Only g w w'

set_option maxRecDepth 100000 in
set_option maxHeartbeats 2000000 in
theorem sNum_found (g k j0 n : Nat) (b : ByteArray) (w : World) (hb : b.size ≤ 3000) (hr : Box w g 69 (rd b k false)) (h : stops b k j0) (hn : val (taken b k (j0 + 1)) = n) (ok : Bool) (hok : ok = true ↔ (n ≤ 2000000000 ∧ taken b k (j0 + 1) = vb n)) :
    Calls Try.prog 57 #[.pointer (some ⟨g, 0, none⟩)] w (NumPost g b (k + (j0 + 1)) n ok w) := by
  have Hh := Lib.hid h
  have Hn := Lib.hid hn
  have Hok := Lib.hid hok
  have hjs0 := h.1
  have hj50 := h.2.1
  have c1 := hr.cell 1
  simp at c1
  clear h hn hok
  go_enter Try.func57, Try.ntmps57
  go_wp2_with fail
  go_loopw [4, 5, 6] (fun n by_ i wr => ∃ j : Nat, i = .int .i64 j ∧ j ≤ j0 ∧ n = .int .i64 (val (taken b k j)) ∧ by_ = .int .i64 (128 ^ j : Nat) ∧ Box wr g 69 (rd b (k + j : Nat) false) ∧ Only g w wr) (fun _ _ i _ => 5 - (intOf i).toNat)
  case atStart => exact ⟨0, rfl, by omega, rfl, rfl, hr, Only.refl _ _⟩
  case round =>
    clear c1
    obtain ⟨j, rfl, hj, rfl, rfl, hb1, ho1⟩ := hrel
    clear hr
    have hvl : val (taken b k j) < 128 ^ j := by have := val_lt (taken b k j); rwa [taken_len] at this
    have hpw : 128 ^ j ≤ 34359738368 := by
      have : 128 ^ j ≤ 128 ^ 5 := Nat.pow_le_pow_right (by decide) (by omega)
      simpa using this
    generalize hV : val (taken b k j) = V at *
    have HV := Lib.hid hV
    clear hV
    generalize hP : 128 ^ j = P at *
    have HP := Lib.hid hP
    clear hP
    have hs : k + j < b.size := by omega
    go_wp2_with fail
    refine (sByte_ok g (k + j) b _ hb hb1 hs).mono ?_
    rintro e w2 ⟨rfl, hr2, ho2⟩
    have hc := byteAt_le b (k + j)
    obtain ⟨c, hc2⟩ := Int.eq_ofNat_of_zero_le hc.1
    have Hc := Lib.hid hc2
    by_cases hlt : j < j0
    · have h128 : 128 ≤ byteAt b (k + j) := Hh.out.2.2.1 j hlt
      rw [hc2] at h128 hc ⊢
      clear hc2
      go_wp2_with fail
      exact ⟨⟨j + 1, by congr 1, by omega, by rw [num_step b k j V P c (by omega) HV.out HP.out Hc.out], by rw [Nat.pow_succ, HP.out]; congr 1, hr2, ho1.trans ho2⟩, by simp [intOf]; omega⟩
    · obtain rfl : j = j0 := by omega
      have h128 : byteAt b (k + j) < 128 := Hh.out.2.2.2
      rw [hc2] at h128 hc ⊢
      clear hc2
      have hst := num_step b k j V P c (by omega) HV.out HP.out Hc.out
      rw [Hn.out] at hst
      obtain ⟨m, hm⟩ : ∃ m, m = k + (j + 1) := ⟨_, rfl⟩
      have hkm : k ≤ m := by omega
      have hjs : m ≤ b.size := by omega
      rw [show k + j + 1 = m by omega] at hr2
      have Hm := Lib.hid hm
      clear hm
      have c0 := hr2.cell 0
      have c1 := hr2.cell 1
      have c2 := hr2.cell 2
      have f2 := hr2.free 2
      simp at c0 c1 c2
      have Hr := Lib.hid hr2
      have Ho := Lib.hid (ho1.trans ho2)
      clear hb1 ho1 hr2 ho2
      by_cases hbig : 2000000000 < n
      · have hof : ok = false := by cases ok with | false => rfl | true => have := Hok.out.1 rfl; omega
        subst hof
        have d1 : decide (2000000000 < (n : Int)) = true := by simp; omega
        go_wp2_with fail
        go_quiet (fail)
        go_wp2_with fail
        go_ret
        exact ⟨rfl, ⟨_, (fun h => by cases h), (Hr.out.drewN _).set 2 _⟩, (Ho.out.drewN _).set 2 _⟩
      · have d1 : decide (2000000000 < (n : Int)) = false := by simp; omega
        have hz := openZ_bd (n := n) (by omega) (by omega)
        have hg := Hr.out.lt
        have hsl := fun W => cutTo b k m hkm hjs W
        have hne : ((strOfNums (vb n)).toList == (b.extract k m).toList) = ok := by
          rw [Hm.out]
          exact strs_eq b k (j + 1) (vb n) (by rw [← Hm.out]; exact hjs) (term_bd (vb_term n)) ok (Hok.out.trans ⟨fun h => h.2.symm, fun h => ⟨by omega, h.symm⟩⟩)
        go_wp2_with fail
        go_region_held3 (fun w' => w'.cell? ⟨g, 0, none⟩ = some (.string b) ∧ w'.cell? ⟨g, 1, none⟩ = some (.int .i64 (m : Int)) ∧ w'.cell? ⟨g, 2, none⟩ = some (.bool false))
          (first
            | go_keep
            | (go_split_ands
               refine ⟨?_, ?_, ?_⟩ <;> (rw [hb2.cell (by simp; omega)]; assumption)))
          (first
            | (go_at_call 60; refine (sl1Open n _ (by omega) (by omega)).mono ?_; rintro e w' ⟨rfl, rfl⟩)
            | (go_at_call 49; refine (sl1NumBytes (openZ n) n _ hz.1 hz.2 (foldZ_openZ (by omega))).mono ?_; rintro e w3 ⟨rfl, hb2⟩))
        have hr3 := (Hr.out.drew).below hb2 (by simpa using hg)
        have f2' := hr3.free 2
        have Hr3 := Lib.hid hr3
        have Ho3 := Lib.hid (Ho.out.drew.trans (Only.ofBelow hb2))
        clear hr3 hb2
        cases ok
        · go_wp2_with fail
          go_ret
          exact ⟨rfl, ⟨_, (fun h => by cases h), Hr3.out.set 2 _⟩, Ho3.out.set 2 _⟩
        · go_wp2_with (go_at_call 60; refine (sl1Open n _ (by omega) (by omega)).mono ?_; rintro e w' ⟨rfl, rfl⟩)
          go_ret
          exact ⟨rfl, ⟨_, (fun _ => by rw [Hm.out]), Hr3.out⟩, Ho3.out⟩

set_option maxHeartbeats 1000000 in
theorem sReadNum_of (b : ByteArray) (k m n : Nat) (ok : Bool) (w : World) (hb : b.size ≤ 3000) (hk : k ≤ b.size)
    (hN : ∀ (g : Nat) (W : World), Box W g 69 (rd b k false) → Calls Try.prog 57 #[.pointer (some ⟨g, 0, none⟩)] W (NumPost g b m n ok W)) :
    Calls Try.prog 21 #[.string b, .int .i64 k] w fun e w' => e = .returned (.tuple #[.int .i64 (if ok then openZ n else 0), .int .i64 (if ok then (m : Nat) else 0), .bool ok]) ∧ Below w.heap.size w w' := by
  have HN := Lib.hid hN
  clear hN
  go_enter Try.func21, Try.ntmps21
  go_wp2_with (go_at_call 56; refine (sPlace_yes _ _ _ hb (by omega) (by omega)).mono ?_; rintro e w' ⟨rfl, rfl⟩)
  refine (HN.out _ _ (Box.new w _ _)).mono ?_
  rintro e w1 ⟨rfl, ⟨k', hk', hr1⟩, ho1⟩
  have Hk := Lib.hid hk'
  have c1 := hr1.cell 1
  have c2 := hr1.cell 2
  simp at c1 c2
  have Ho := Lib.hid ((((Below.refl w.heap.size w).alloc (Nat.le_refl _) _).trans (ho1.below (Nat.le_refl _) (by simp))))
  clear hr1 ho1 hk'
  cases ok
  · go_wp2_with fail
    go_ret3
    exact ⟨rfl, Ho.out⟩
  · have e := Hk.out rfl
    subst e
    go_wp2_with fail
    go_quiet (fail)
    go_wp2_with fail
    go_ret3
    exact ⟨rfl, belowN Ho.out _⟩

set_option maxHeartbeats 1000000 in
theorem sReadNum_out (b : ByteArray) (a : Int) (w : World) (h : 3000 < b.size ∨ a < 0 ∨ (b.size : Int) < a) :
    Calls Try.prog 21 #[.string b, .int .i64 a] w fun e w' => e = .returned (.tuple #[.int .i64 0, .int .i64 0, .bool false]) ∧ Below w.heap.size w w' := by
  go_enter Try.func21, Try.ntmps21
  go_wp2_with (go_at_call 56; refine (sPlace_no _ _ _ h).mono ?_; rintro e w' ⟨rfl, rfl⟩)
  go_ret3
  exact ⟨rfl, Below.refl _ _⟩

set_option maxHeartbeats 1000000 in
theorem iReadNum_out (b : ByteArray) (a : Int) (w : World) (h : 3000 < b.size ∨ a < 0 ∨ (b.size : Int) < a) :
    Calls Try.prog 19 #[.string b, .int .i64 a] w fun e w' => e = .returned (.tuple #[.int .i64 0, .int .i64 0, .bool false]) ∧ Below w.heap.size w w' := by
  go_enter Try.func19, Try.ntmps19
  go_wp2_with (go_at_call 50; refine (iPlace_no _ _ _ h).mono ?_; rintro e w' ⟨rfl, rfl⟩)
  go_ret3
  exact ⟨rfl, Below.refl _ _⟩

theorem readNum_both (b : ByteArray) (a : Int) : ∃ (x m : Int) (ok : Bool),
    (∀ w : World, Calls Try.prog 21 #[.string b, .int .i64 a] w fun e w' => e = .returned (.tuple #[.int .i64 x, .int .i64 m, .bool ok]) ∧ Below w.heap.size w w') ∧
    (∀ w : World, Calls Try.prog 19 #[.string b, .int .i64 a] w fun e w' => e = .returned (.tuple #[.int .i64 x, .int .i64 m, .bool ok]) ∧ Below w.heap.size w w') := by
  by_cases h : 3000 < b.size ∨ a < 0 ∨ (b.size : Int) < a
  · exact ⟨0, 0, false, fun w => sReadNum_out b a w h, fun w => iReadNum_out b a w h⟩
  · obtain ⟨k, rfl⟩ := Int.eq_ofNat_of_zero_le (show 0 ≤ a by omega)
    by_cases hx : ∃ j, stops b k j
    · obtain ⟨j, hx⟩ := hx
      obtain ⟨n, hn⟩ : ∃ n, val (taken b k (j + 1)) = n := ⟨_, rfl⟩
      by_cases hbig : 2000000000 < n
      · refine ⟨0, 0, false, fun w => ?_, fun w => iReadNum_big b k j n w (by omega) (by omega) hx hn hbig⟩
        exact sReadNum_of b k (k + (j + 1)) n false w (by omega) (by omega) (fun g W hr => sNum_found g k j n b W (by omega) hr hx hn false ⟨(fun h => by cases h), fun h => by omega⟩)
      · by_cases ht : taken b k (j + 1) = vb n
        · refine ⟨_, _, true, fun w => ?_, fun w => iReadNum_in b k j n w (by omega) (by omega) hx hn (by omega) true ⟨fun _ => ht, fun _ => rfl⟩⟩
          exact sReadNum_of b k (k + (j + 1)) n true w (by omega) (by omega) (fun g W hr => sNum_found g k j n b W (by omega) hr hx hn true ⟨fun _ => ⟨by omega, ht⟩, fun _ => rfl⟩)
        · refine ⟨_, _, false, fun w => ?_, fun w => iReadNum_in b k j n w (by omega) (by omega) hx hn (by omega) false ⟨(fun h => by cases h), fun h => absurd h ht⟩⟩
          exact sReadNum_of b k (k + (j + 1)) n false w (by omega) (by omega) (fun g W hr => sNum_found g k j n b W (by omega) hr hx hn false ⟨(fun h => by cases h), fun h => absurd h.2 ht⟩)
    · refine ⟨0, 0, false, fun w => ?_, fun w => iReadNum_none b k w (by omega) (by omega) (fun j hj => hx ⟨j, hj⟩)⟩
      refine sReadNum_of b k 0 0 false w (by omega) (by omega) (fun g W hr => (sNum_none g k b W (by omega) (by omega) hr (fun j hj => hx ⟨j, hj⟩)).mono ?_)
      rintro e w' ⟨rfl, ⟨k', hk'⟩, ho⟩
      exact ⟨rfl, ⟨k', (fun h => by cases h), hk'⟩, ho⟩

-- shell: FnExactReadNum
set_option maxHeartbeats 1000000 in
theorem law_FnExactReadNum (b : ByteArray) (a : Int) (w : World) (_ : b.size ≤ maxLen) (_ : (Lit.int .i64 a).wf = true) :
    Calls Try.prog 7 #[.string b, .int .i64 a] w fun e w' => e = .returned (.bool true) ∧ Below w.heap.size w w' := by
  by_cases h : 1048576 < b.size
  · go_enter Try.func7, Try.ntmps7
    go_wp2_with fail
    go_ret
    exact ⟨rfl, Below.refl _ _⟩
  · obtain ⟨x, m, ok, hS, hI⟩ := readNum_both b a
    have HS := Lib.hid hS
    have HI := Lib.hid hI
    clear hS hI
    go_enter Try.func7, Try.ntmps7
    go_wp2_with fail
    refine (HS.out _).mono ?_
    rintro e w1 ⟨rfl, hb1⟩
    go_wp2_with fail
    refine (HI.out _).mono ?_
    rintro e w2 ⟨rfl, hb2⟩
    go_wp2_with fail
    go_ret
    exact ⟨rfl, hb1.trans (hb2.mono hb1.size)⟩

end Go.Proofs.Ytplmpjdlgooffaa
