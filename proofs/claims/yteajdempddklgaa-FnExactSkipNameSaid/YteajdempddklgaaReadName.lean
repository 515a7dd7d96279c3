
/-
  What is proved: contracts of ReadName of the program and of its model, and from them the walk of its law. No condition beside what each theorem states.
-/
import Derived.Test.YteajdempddklgaaName
import Derived.Test.YteajdempddklgaaMem
import Derived.Laws.IdiomStrings
import Derived.Deep.QuietTactic
import Derived.BigQuiet
namespace Go.Proofs.Yteajdempddklgaa
open Go.ChangeShapes Go.WideShapes Go.ChangeAt Go.RowKit

theorem iPlace_yes (b : ByteArray) (a : Int) (w : World) (h1 : b.size ≤ 3000) (h2 : 0 ≤ a) (h3 : a ≤ b.size) :
    Calls Try.prog 37 #[.string b, .int .i64 a] w fun e w' => e = .returned (.bool true) ∧ w = w' := by
  have d1 : decide ((b.size : Int) ≤ 3000) = true := by simp; omega
  have d2 : decide (0 ≤ a) = true := by simpa using h2
  have d3 : decide (a ≤ (b.size : Int)) = true := by simpa using h3
  go_enter Try.func37, Try.ntmps37
  go_wp2_with fail
  go_ret
  exact ⟨rfl, rfl⟩

theorem iPlace_no (b : ByteArray) (a : Int) (w : World) (h : 3000 < b.size ∨ a < 0 ∨ (b.size : Int) < a) :
    Calls Try.prog 37 #[.string b, .int .i64 a] w fun e w' => e = .returned (.bool false) ∧ w = w' := by
  cases d1 : decide ((b.size : Int) ≤ 3000)
  · go_enter Try.func37, Try.ntmps37
    go_wp2_with fail
    go_ret
    exact ⟨rfl, rfl⟩
  · cases d2 : decide (0 ≤ a)
    · go_enter Try.func37, Try.ntmps37
      go_wp2_with fail
      go_ret
      exact ⟨rfl, rfl⟩
    · have d3 : decide (a ≤ (b.size : Int)) = false := by simp at d1 d2 ⊢; omega
      go_enter Try.func37, Try.ntmps37
      go_wp2_with fail
      go_ret
      exact ⟨rfl, rfl⟩

/-- A text as bytes and back. -/
theorem bytesBack (W : World) (s : ByteArray) (c : Nat) (m : Nat × Nat) : (convert 58 9 (.slice (some ⟨W.heap.size, 0, none⟩) s.size c)).run Try.prog (W.alloc (.cells (bytesRow s c) 5 m)).drew =
    .ok (.string s) (W.alloc (.cells (bytesRow s c) 5 m)).drew := by
  have h := run_convert_bytes_back (P := Try.prog) (W.alloc (.cells (bytesRow s c) 5 m)).drew 58 9 5 ⟨W.heap.size, 0, none⟩ c s.data.toList Try.underlying58 Try.underlying5 Try.underlying9
    (fun j hj => by
      have hl : s.data.toList.length = s.size := by simp
      have hplain : (⟨W.heap.size, 0, none⟩ : Addr).add j = ⟨W.heap.size, j, none⟩ := by unfold Addr.add; split <;> simp_all
      rw [hplain]
      have hj' : j < s.data.size := by simpa using hj
      show (W.alloc (.cells (bytesRow s c) 5 m)).cell? ⟨W.heap.size, j, none⟩ = _
      rw [World.cell?_alloc_mark]
      have hj2 : j < (s.data.map (fun b => Value.int .u8 b.toNat)).size := by simpa using hj'
      rw [bytesRow, Array.getElem?_append_left hj2]
      rw [Array.getElem?_map, Array.getElem?_eq_getElem hj']
      rfl)
  have e1 : s.data.toList.length = s.size := by simp
  rw [e1] at h
  rw [h]

theorem bytesOf (W : World) (s : ByteArray) : (convert 9 58 (.string s)).run Try.prog W = .ok (.slice (some ⟨W.heap.size, 0, none⟩) s.size (grownCap W s.size 0 5))
      (W.drew.alloc (.cells (bytesRow s (grownCap W s.size 0 5)) 5 ((bytesRow s (grownCap W s.size 0 5)).size, (bytesRow s (grownCap W s.size 0 5)).size + 1))) :=
  run_bytes_of_string (P := Try.prog) W 9 58 5 s Try.underlying9 Try.underlying58 Try.underlying5

theorem cutAt (b : ByteArray) (k n : Nat) (hb : k + 1 + n ≤ b.size) (W : World) : (Instr.slice 9 (.string b) (some (.int .i64 ((k : Int) + 1))) (some (.int .i64 ((k : Int) + 1 + (n : Int)))) none).run Try.prog W = .ok (.string (b.extract (k + 1) (k + 1 + n))) W := by
  have := run_slice_string (P := Try.prog) W 9 b .i64 .i64 ((k : Int) + 1) ((k : Int) + 1 + (n : Int)) Try.underlying9 (by omega) (by omega) (by omega)
  rw [this, show ((k : Int) + 1).toNat = k + 1 by omega, show ((k : Int) + 1 + (n : Int)).toNat = k + 1 + n by omega]

set_option maxHeartbeats 1000000 in
theorem iReadName_yes (b : ByteArray) (k n : Nat) (w : World) (h1 : b.size ≤ 3000) (hk : k < b.size) (hn : byteAt b k = n) (hb : k + 1 + n ≤ b.size) (hp : nameP (b.extract (k + 1) (k + 1 + n))) :
    Calls Try.prog 20 #[.string b, .int .i64 k] w fun e w' => e = .returned (.tuple #[.string (b.extract (k + 1) (k + 1 + n)), .int .i64 (k + 1 + n : Nat), .bool true]) ∧ Below w.heap.size w w' := by
  have ek : (b[k].toNat : Int) = n := (byteAt_get b k hk).trans hn
  have hf := nameB_true hp
  have hsz : (b.extract (k + 1) (k + 1 + n)).size ≤ maxLen := by unfold maxLen; have := hp.2.1; omega
  have hne : ((k : Int) == (b.size : Int)) = false := beq_eq_false_iff_ne.2 (by omega)
  have hgt : decide ((b.size : Int) < (k : Int) + 1 + (n : Int)) = false := by simp; omega
  have hsl := cutAt b k n hb
  have kb := bytesOf
  have kb2 := bytesBack
  generalize hx : b.extract (k + 1) (k + 1 + n) = x at *
  clear hn hx
  go_enter Try.func20, Try.ntmps20
  go_wp2_with (first | (go_at_call 37; refine (iPlace_yes _ _ _ h1 (by omega) (by omega)).mono ?_; rintro e w' ⟨rfl, rfl⟩) | (go_at_call 38; refine (iGoodName _ _ hsz).mono ?_; rintro e w' ⟨rfl, rfl⟩))
  go_ret3
  refine ⟨by congr 2, ?_⟩
  go_grown

set_option maxHeartbeats 1000000 in
theorem iReadName_out (b : ByteArray) (a : Int) (w : World) (h : 3000 < b.size ∨ a < 0 ∨ (b.size : Int) < a) :
    Calls Try.prog 20 #[.string b, .int .i64 a] w fun e w' => e = .returned (.tuple #[.string ByteArray.empty, .int .i64 0, .bool false]) ∧ w = w' := by
  go_enter Try.func20, Try.ntmps20
  go_wp2_with (go_at_call 37; refine (iPlace_no _ _ _ h).mono ?_; rintro e w' ⟨rfl, rfl⟩)
  go_ret3
  exact ⟨rfl, rfl⟩

set_option maxHeartbeats 1000000 in
theorem iReadName_end (b : ByteArray) (w : World) (h : b.size ≤ 3000) :
    Calls Try.prog 20 #[.string b, .int .i64 b.size] w fun e w' => e = .returned (.tuple #[.string ByteArray.empty, .int .i64 0, .bool false]) ∧ w = w' := by
  go_enter Try.func20, Try.ntmps20
  go_wp2_with (go_at_call 37; refine (iPlace_yes _ _ _ h (by omega) (by omega)).mono ?_; rintro e w' ⟨rfl, rfl⟩)
  go_ret3
  exact ⟨rfl, rfl⟩

set_option maxHeartbeats 1000000 in
theorem iReadName_long (b : ByteArray) (k n : Nat) (w : World) (h1 : b.size ≤ 3000) (hk : k < b.size) (hn : byteAt b k = n) (hb : b.size < k + 1 + n) :
    Calls Try.prog 20 #[.string b, .int .i64 k] w fun e w' => e = .returned (.tuple #[.string ByteArray.empty, .int .i64 0, .bool false]) ∧ w = w' := by
  have ek : (b[k].toNat : Int) = n := (byteAt_get b k hk).trans hn
  have hn2 : n ≤ 255 := by have := byteAt_le b k; omega
  have hne : ((k : Int) == (b.size : Int)) = false := beq_eq_false_iff_ne.2 (by omega)
  have hgt : decide ((b.size : Int) < (k : Int) + 1 + (n : Int)) = true := by simp; omega
  clear hn
  go_enter Try.func20, Try.ntmps20
  go_wp2_with (first | (go_at_call 37; refine (iPlace_yes _ _ _ h1 (by omega) (by omega)).mono ?_; rintro e w' ⟨rfl, rfl⟩))
  go_ret3
  exact ⟨rfl, rfl⟩

set_option maxHeartbeats 1000000 in
theorem iReadName_no (b : ByteArray) (k n : Nat) (w : World) (h1 : b.size ≤ 3000) (hk : k < b.size) (hn : byteAt b k = n) (hb : k + 1 + n ≤ b.size) (hp : ¬ nameP (b.extract (k + 1) (k + 1 + n))) :
    Calls Try.prog 20 #[.string b, .int .i64 k] w fun e w' => e = .returned (.tuple #[.string ByteArray.empty, .int .i64 0, .bool false]) ∧ w = w' := by
  have ek : (b[k].toNat : Int) = n := (byteAt_get b k hk).trans hn
  have hf := nameB_false hp
  have hsz : (b.extract (k + 1) (k + 1 + n)).size ≤ maxLen := by unfold maxLen; rw [ByteArray.size_extract]; omega
  have hne : ((k : Int) == (b.size : Int)) = false := beq_eq_false_iff_ne.2 (by omega)
  have hgt : decide ((b.size : Int) < (k : Int) + 1 + (n : Int)) = false := by simp; omega
  have hsl := cutAt b k n hb
  generalize hx : b.extract (k + 1) (k + 1 + n) = x at *
  clear hn hx
  go_enter Try.func20, Try.ntmps20
  go_wp2_with (first | (go_at_call 37; refine (iPlace_yes _ _ _ h1 (by omega) (by omega)).mono ?_; rintro e w' ⟨rfl, rfl⟩) | (go_at_call 38; refine (iGoodName _ _ hsz).mono ?_; rintro e w' ⟨rfl, rfl⟩))
  go_ret3
  exact ⟨rfl, rfl⟩

theorem quietL {P : Program} {f : FuncId} {args : Array Value} {w : World} {n : Nat} {v : Value} (h : Calls P f args (w.drewN n) fun e w' => e = .returned v ∧ w.drewN n = w') :
    Calls P f args (w.drewN n) fun e w' => e = .returned v ∧ ∃ m, w' = w.drewN m := h.mono fun _ _ ⟨he, hm⟩ => ⟨he, n, hm.symm⟩

/-! The model's reader: a struct of the bytes, a place, and whether something was bad. -/
abbrev rd (b : ByteArray) (k : Int) (bad : Bool) : Array Value := #[.string b, .int .i64 k, .bool bad]

set_option maxHeartbeats 1000000 in
theorem sByte_ok (g k : Nat) (b : ByteArray) (w : World) (hb : b.size ≤ 3000) (hr : Box w g 49 (rd b k false)) (hk : k < b.size) :
    Calls Try.prog 34 #[.pointer (some ⟨g, 0, none⟩)] w fun e w' => e = .returned (.int .i64 (byteAt b k)) ∧ Box w' g 49 (rd b (k + 1 : Nat) false) ∧ Only g w w' := by
  have c0 := hr.cell 0
  have c1 := hr.cell 1
  have c2 := hr.cell 2
  have f1 := hr.free 1
  simp at c0 c1 c2
  have ek := byteAt_get b k hk
  have hl := (byteAt_le b k).1
  have hu := (byteAt_le b k).2
  have hd : decide (b.size ≤ k) = false := by simp; omega
  have Hr := Lib.hid hr
  clear hr
  go_enter Try.func34, Try.ntmps34
  go_wp2_with fail
  go_quiet (fail)
  go_wp2_with fail
  go_quiet (fail)
  go_wp2_with fail
  go_ret
  exact ⟨rfl, ((Hr.out.drewN _).set 1 _).drewN _, (((Only.refl g w).drewN _).set 1 _).drewN _⟩

set_option maxHeartbeats 1000000 in
theorem sByte_end (g k : Nat) (b : ByteArray) (bad : Bool) (w : World) (hr : Box w g 49 (rd b k bad)) (hk : bad = true ∨ b.size ≤ k) :
    Calls Try.prog 34 #[.pointer (some ⟨g, 0, none⟩)] w fun e w' => e = .returned (.int .i64 0) ∧ Box w' g 49 (rd b k true) ∧ Only g w w' := by
  have c0 := hr.cell 0
  have c1 := hr.cell 1
  have c2 := hr.cell 2
  have f2 := hr.free 2
  simp at c0 c1 c2
  have Hr := Lib.hid hr
  clear hr
  cases bad
  · have hd : decide (b.size ≤ k) = true := by simpa using hk
    clear hk
    go_enter Try.func34, Try.ntmps34
    go_wp2_with fail
    go_quiet (fail)
    go_wp2_with fail
    go_ret
    exact ⟨rfl, (Hr.out.drewN _).set 2 _, ((Only.refl g w).drewN _).set 2 _⟩
  · clear hk
    go_enter Try.func34, Try.ntmps34
    go_wp2_with fail
    go_quiet (fail)
    go_wp2_with fail
    go_ret
    exact ⟨rfl, (Hr.out.drewN _).set 2 _, ((Only.refl g w).drewN _).set 2 _⟩


set_option maxHeartbeats 2000000 in
theorem sName_ok (g k n : Nat) (b : ByteArray) (w : World) (hb : b.size ≤ 3000) (hr : Box w g 49 (rd b k false)) (hk : k < b.size) (hn : byteAt b k = n) (hl : k + 1 + n ≤ b.size) (hp : nameP (b.extract (k + 1) (k + 1 + n))) :
    Calls Try.prog 18 #[.pointer (some ⟨g, 0, none⟩)] w fun e w' => e = .returned (.string (b.extract (k + 1) (k + 1 + n))) ∧ Box w' g 49 (rd b (k + 1 + n : Nat) false) ∧ Only g w w' := by
  have hf := nameB_true hp
  have hsz : (b.extract (k + 1) (k + 1 + n)).size ≤ maxLen := by unfold maxLen; have := hp.2.1; omega
  have hgt : decide ((b.size : Int) < (k : Int) + 1 + (n : Int)) = false := by simp; omega
  have hsl := cutAt b k n hl
  generalize hx : b.extract (k + 1) (k + 1 + n) = x at *
  clear hx hp
  have Hn := Lib.hid hn
  clear hn
  go_enter Try.func18, Try.ntmps18
  go_wp2_with fail
  refine (sByte_ok g k b _ hb hr hk).mono ?_
  rintro e w1 ⟨rfl, hr1, ho1⟩
  rw [Hn.out]
  have c0 := hr1.cell 0
  have c1 := hr1.cell 1
  have c2 := hr1.cell 2
  have f1 := hr1.free 1
  simp at c0 c1 c2
  have Hr := Lib.hid hr1
  have Ho := Lib.hid ho1
  clear hr hr1 ho1
  go_wp2_with fail
  have s1 : IntKind.i64.wrap ((k : Int) + 1 + (n : Int)) = (k : Int) + 1 + (n : Int) := IntWalk.i64_in _ (by omega)
  go_quiet ((go_at_call 35; exact quietL (sl1Name _ _ hsz)))
  clear s1
  go_wp2_with fail
  go_quiet (fail)
  go_wp2_with fail
  go_ret
  exact ⟨rfl, ((Hr.out.drewN _).set 1 _).drewN _, ((Ho.out.drewN _).set 1 _).drewN _⟩

set_option maxHeartbeats 2000000 in
theorem sName_end (g k : Nat) (b : ByteArray) (w : World) (hr : Box w g 49 (rd b k false)) (hk : b.size ≤ k) :
    Calls Try.prog 18 #[.pointer (some ⟨g, 0, none⟩)] w fun e w' => e = .returned (.string ByteArray.empty) ∧ (∃ k' : Int, Box w' g 49 (rd b k' true)) ∧ Only g w w' := by
  go_enter Try.func18, Try.ntmps18
  go_wp2_with fail
  refine (sByte_end g k b false _ hr (.inr hk)).mono ?_
  rintro e w1 ⟨rfl, hr1, ho1⟩
  have c0 := hr1.cell 0
  have c1 := hr1.cell 1
  have c2 := hr1.cell 2
  have f2 := hr1.free 2
  simp at c0 c1 c2
  have Hr := Lib.hid hr1
  have Ho := Lib.hid ho1
  clear hr hr1 ho1
  go_wp2_with fail
  go_quiet (fail)
  go_wp2_with fail
  go_ret
  exact ⟨rfl, ⟨_, (Hr.out.drewN _).set 2 _⟩, (Ho.out.drewN _).set 2 _⟩

set_option maxHeartbeats 2000000 in
theorem sName_long (g k n : Nat) (b : ByteArray) (w : World) (hb : b.size ≤ 3000) (hr : Box w g 49 (rd b k false)) (hk : k < b.size) (hn : byteAt b k = n) (hl : b.size < k + 1 + n) :
    Calls Try.prog 18 #[.pointer (some ⟨g, 0, none⟩)] w fun e w' => e = .returned (.string ByteArray.empty) ∧ (∃ k' : Int, Box w' g 49 (rd b k' true)) ∧ Only g w w' := by
  have hn2 : n ≤ 255 := by have := byteAt_le b k; omega
  have hgt : decide ((b.size : Int) < (k : Int) + 1 + (n : Int)) = true := by simp; omega
  have Hn := Lib.hid hn
  clear hn
  go_enter Try.func18, Try.ntmps18
  go_wp2_with fail
  refine (sByte_ok g k b _ hb hr hk).mono ?_
  rintro e w1 ⟨rfl, hr1, ho1⟩
  rw [Hn.out]
  have c0 := hr1.cell 0
  have c1 := hr1.cell 1
  have c2 := hr1.cell 2
  have f2 := hr1.free 2
  simp at c0 c1 c2
  have Hr := Lib.hid hr1
  have Ho := Lib.hid ho1
  clear hr hr1 ho1
  go_wp2_with fail
  have s1 : IntKind.i64.wrap ((k : Int) + 1 + (n : Int)) = (k : Int) + 1 + (n : Int) := IntWalk.i64_in _ (by omega)
  go_quiet (fail)
  clear s1
  go_wp2_with fail
  go_ret
  exact ⟨rfl, ⟨_, (Hr.out.drewN _).set 2 _⟩, (Ho.out.drewN _).set 2 _⟩

set_option maxHeartbeats 2000000 in
theorem sName_no (g k n : Nat) (b : ByteArray) (w : World) (hb : b.size ≤ 3000) (hr : Box w g 49 (rd b k false)) (hk : k < b.size) (hn : byteAt b k = n) (hl : k + 1 + n ≤ b.size) (hp : ¬ nameP (b.extract (k + 1) (k + 1 + n))) :
    Calls Try.prog 18 #[.pointer (some ⟨g, 0, none⟩)] w fun e w' => e = .returned (.string ByteArray.empty) ∧ (∃ k' : Int, Box w' g 49 (rd b k' true)) ∧ Only g w w' := by
  have hf := nameB_false hp
  have hsz : (b.extract (k + 1) (k + 1 + n)).size ≤ maxLen := by unfold maxLen; rw [ByteArray.size_extract]; omega
  have hgt : decide ((b.size : Int) < (k : Int) + 1 + (n : Int)) = false := by simp; omega
  have hsl := cutAt b k n hl
  generalize hx : b.extract (k + 1) (k + 1 + n) = x at *
  clear hx hp
  have Hn := Lib.hid hn
  clear hn
  go_enter Try.func18, Try.ntmps18
  go_wp2_with fail
  refine (sByte_ok g k b _ hb hr hk).mono ?_
  rintro e w1 ⟨rfl, hr1, ho1⟩
  rw [Hn.out]
  have c0 := hr1.cell 0
  have c1 := hr1.cell 1
  have c2 := hr1.cell 2
  have f2 := hr1.free 2
  simp at c0 c1 c2
  have Hr := Lib.hid hr1
  have Ho := Lib.hid ho1
  clear hr hr1 ho1
  go_wp2_with fail
  have s1 : IntKind.i64.wrap ((k : Int) + 1 + (n : Int)) = (k : Int) + 1 + (n : Int) := IntWalk.i64_in _ (by omega)
  go_quiet ((go_at_call 35; exact quietL (sl1Name _ _ hsz)))
  clear s1
  go_wp2_with fail
  go_ret
  exact ⟨rfl, ⟨_, (Hr.out.drewN _).set 2 _⟩, (Ho.out.drewN _).set 2 _⟩

/-- The bytes at place k are the name x, up to place m. -/
def isNameAt (b : ByteArray) (k : Nat) (x : ByteArray) (m : Nat) : Prop := ∃ n : Nat, k < b.size ∧ byteAt b k = n ∧ k + 1 + n ≤ b.size ∧ x = b.extract (k + 1) (k + 1 + n) ∧ nameP x ∧ m = k + 1 + n
theorem nameAt_cases (b : ByteArray) (k : Nat) : (∃ x m, isNameAt b k x m) ∨ b.size ≤ k ∨ (∃ n : Nat, k < b.size ∧ byteAt b k = n ∧ b.size < k + 1 + n) ∨ (∃ n : Nat, k < b.size ∧ byteAt b k = n ∧ k + 1 + n ≤ b.size ∧ ¬ nameP (b.extract (k + 1) (k + 1 + n))) := by
  by_cases hk : k < b.size
  · obtain ⟨n, hn⟩ := Int.eq_ofNat_of_zero_le (byteAt_le b k).1
    by_cases hl : k + 1 + n ≤ b.size
    · by_cases hp : nameP (b.extract (k + 1) (k + 1 + n))
      · exact .inl ⟨_, _, n, hk, hn, hl, rfl, hp, rfl⟩
      · exact .inr (.inr (.inr ⟨n, hk, hn, hl, hp⟩))
    · exact .inr (.inr (.inl ⟨n, hk, hn, by omega⟩))
  · exact .inr (.inl (by omega))

theorem sName_fault (g k : Nat) (b : ByteArray) (w : World) (hb : b.size ≤ 3000) (hr : Box w g 49 (rd b k false)) (h : ¬ ∃ x m, isNameAt b k x m) :
    Calls Try.prog 18 #[.pointer (some ⟨g, 0, none⟩)] w fun e w' => e = .returned (.string ByteArray.empty) ∧ (∃ k' : Int, Box w' g 49 (rd b k' true)) ∧ Only g w w' := by
  rcases nameAt_cases b k with h1 | h1 | ⟨n, h1, h2, h3⟩ | ⟨n, h1, h2, h3, h4⟩
  · exact absurd h1 h
  · exact sName_end g k b w hr h1
  · exact sName_long g k n b w hb hr h1 h2 h3
  · exact sName_no g k n b w hb hr h1 h2 h3 h4

theorem iReadName_fault (b : ByteArray) (k : Nat) (w : World) (hb : b.size ≤ 3000) (hk : k ≤ b.size) (h : ¬ ∃ x m, isNameAt b k x m) :
    Calls Try.prog 20 #[.string b, .int .i64 k] w fun e w' => e = .returned (.tuple #[.string ByteArray.empty, .int .i64 0, .bool false]) ∧ w = w' := by
  rcases nameAt_cases b k with h1 | h1 | ⟨n, h1, h2, h3⟩ | ⟨n, h1, h2, h3, h4⟩
  · exact absurd h1 h
  · obtain rfl : k = b.size := by omega
    exact iReadName_end b w hb
  · exact iReadName_long b k n w hb h1 h2 h3
  · exact iReadName_no b k n w hb h1 h2 h3 h4

end Go.Proofs.Yteajdempddklgaa
