/-
  What is proved: contracts of ReadNum's parts, and the walk of NumBytes's law. No condition beside what each theorem states.
-/
import Derived.Test.YtplmpjdlgooffaaNumBytes
import Derived.RegionTactic
namespace Go.Proofs.Ytplmpjdlgooffaa
open Go.ChangeShapes Go.WideShapes Go.ChangeAt Go.RowKit

-- shell: FnExactNumBytes
set_option maxHeartbeats 400000 in
theorem law_FnExactNumBytes (n : Int) (w : World) (_ : (Lit.int .i64 n).wf = true) :
    Calls Try.prog 6 #[.int .i64 n] w fun e w' => e = .returned (.bool true) ∧ Below w.heap.size w w' := by
  by_cases h : -1000000000 ≤ n ∧ n ≤ 1000000000
  · obtain ⟨N, hN⟩ := Int.eq_ofNat_of_zero_le (foldZ_bd h.1 h.2).1
    have HN := Lib.hid hN
    clear hN
    go_enter Try.func6, Try.ntmps6
    go_wp2_with fail
    refine (sNumBytes_in n N _ h.1 h.2 HN.out).mono ?_
    rintro e w1 ⟨rfl, hb1⟩
    go_wp2_with fail
    refine (iNumBytes_in n N _ h.1 h.2 HN.out).mono ?_
    rintro e w2 ⟨rfl, hb2⟩
    go_wp2_with fail
    go_ret
    exact ⟨rfl, hb1.trans (hb2.mono hb1.size)⟩
  · have h' : n < -1000000000 ∨ 1000000000 < n := by omega
    go_enter Try.func6, Try.ntmps6
    go_wp2_with fail
    refine (sNumBytes_out n _ h').mono ?_
    rintro e w1 ⟨rfl, hb1⟩
    go_wp2_with fail
    refine (iNumBytes_out n _ h').mono ?_
    rintro e w2 ⟨rfl, hb2⟩
    go_wp2_with fail
    go_ret
    exact ⟨rfl, hb1.trans (hb2.mono hb1.size)⟩

/-- The first j bytes behind place k. -/
def taken (b : ByteArray) (k j : Nat) : List Int := (List.range j).map fun i => byteAt b (k + i)
theorem taken_len (b : ByteArray) (k j : Nat) : (taken b k j).length = j := by simp [taken]
theorem taken_snoc (b : ByteArray) (k j : Nat) : taken b k (j + 1) = taken b k j ++ [byteAt b (k + j)] := by simp [taken, List.range_succ]

/-- The bytes of a number that begins at place k end behind j + 1 of them. -/
def stops (b : ByteArray) (k j : Nat) : Prop := k + j < b.size ∧ j < 5 ∧ (∀ i, i < j → 128 ≤ byteAt b (k + i)) ∧ byteAt b (k + j) < 128

theorem stops_term {b : ByteArray} {k j : Nat} (h : stops b k j) : Term (taken b k (j + 1)) := by
  obtain ⟨_, _, h1, h2⟩ := h
  have key : ∀ (m : Nat) (f : Nat → Int), (∀ i, 0 ≤ f i ∧ f i ≤ 255) → (∀ i, i < m → 128 ≤ f i) → f m < 128 → Term ((List.range (m + 1)).map f) := by
    intro m
    induction m with
    | zero => intro f hf _ h2; simp only [Nat.zero_add, List.range_one, List.map_cons, List.map_nil]; exact .inl ⟨rfl, (hf 0).1, h2⟩
    | succ m ih =>
      intro f hf h1 h2
      rw [List.range_succ_eq_map, List.map_cons, List.map_map]
      refine .inr ⟨h1 0 (by omega), by have := (hf 0).2; omega, ?_⟩
      exact ih (fun i => f (i + 1)) (fun i => hf _) (fun i hi => h1 _ (by omega)) h2
  exact key j _ (fun i => byteAt_le _ _) h1 h2

set_option maxHeartbeats 1000000 in
theorem iCutBox (g : Nat) (s : ByteArray) (t : TypeId) (w : World) (hs : s.size ≤ 3000) (hr : Box w g t (boxOf [])) :
    Calls Try.prog 51 #[.pointer (some ⟨g, 0, none⟩), .string s] w fun e w' =>
      ((∃ j, stops s 0 j ∧ e = .returned (.int .i64 (j + 1 : Nat)) ∧ Box w' g t (boxOf (taken s 0 (j + 1)))) ∨ ((∀ j, ¬ stops s 0 j) ∧ e = .returned (.int .i64 0))) ∧ Only g w w' := by
  go_enter Try.func51, Try.ntmps51
  go_wp2_with fail
  go_loopw [5] (fun i wr => ∃ k : Nat, i = .int .i64 k ∧ k ≤ 5 ∧ k ≤ s.size ∧ (∀ i, i < k → 128 ≤ byteAt s (0 + i)) ∧ Box wr g t (boxOf (taken s 0 k)) ∧ Only g w wr) (fun i _ => 5 - (intOf i).toNat)
  case atStart => exact ⟨0, rfl, by omega, by omega, fun i hi => absurd hi (by omega), hr, Only.refl _ _⟩
  case round =>
    obtain ⟨k, rfl, hk5, hks, hhi, hb, ho⟩ := hrel
    have Hhi := Lib.hid hhi
    have Hb := Lib.hid hb
    have Ho := Lib.hid ho
    clear hhi ho hr
    by_cases hlt : k < s.size ∧ k < 5
    · have c := hb.cell k
      rw [boxOf_get (by rw [taken_len]; omega) hlt.2] at c
      have f := hb.free k
      clear hb
      have ek := byteAt_get s k hlt.1
      have hl := (byteAt_le s k).1
      have hu := (byteAt_le s k).2
      obtain ⟨h1, h2⟩ := hlt
      have d1 : decide (k < s.size) = true := by simpa using h1
      have d2 : decide ((k : Int) < 5) = true := by simp; omega
      have Hb' : Hid (∀ x : Int, x = byteAt s k → Box (wr.setCell ⟨g, k, none⟩ (.int .u8 x)).drew g t (boxOf (taken s 0 (k + 1)))) := fun x hx => by
        have e := boxOf_snoc (l := taken s 0 k) (by rw [taken_len]; omega) (byteAt s k)
        rw [taken_len] at e
        rw [taken_snoc, Nat.zero_add, ← e, hx]
        exact (Hb.out.set k _).drew
      by_cases h : byteAt s k < 128
      · go_wp2_with fail
        go_region
        go_wp2_with fail
        go_ret
        exact ⟨.inl ⟨k, ⟨by omega, h2, Hhi.out, by rw [Nat.zero_add]; exact h⟩, by congr 1, Hb'.out _ rfl⟩, (Ho.out.set _ _).drew⟩
      · have Hhi' : Hid (∀ i, i < k + 1 → 128 ≤ byteAt s (0 + i)) := fun i hi => by
          by_cases e : i = k
          · rw [e, Nat.zero_add]; omega
          · exact Hhi.out i (by omega)
        go_wp2_with fail
        go_region
        go_wp2_with fail
        exact ⟨⟨k + 1, by congr 1, by omega, by omega, Hhi'.out, Hb'.out _ rfl, (Ho.out.set _ _).drew⟩, by simp [intOf]; omega⟩
    · have Hn : Hid (∀ j, ¬ stops s 0 j) := fun j hj => by
        obtain ⟨h1, h2, h3, h4⟩ := hj
        have : k ≤ j := by
          rcases Nat.lt_or_ge j k with h | h
          · have := Hhi.out j h; omega
          · exact h
        omega
      clear hb
      by_cases h1 : k < s.size
      · have d1 : decide (k < s.size) = true := by simpa using h1
        have d2 : decide ((k : Int) < 5) = false := by simp; omega
        go_wp2_with fail
        go_ret
        exact ⟨.inr ⟨Hn.out, rfl⟩, Ho.out⟩
      · have d1 : decide (k < s.size) = false := by simpa using h1
        go_wp2_with fail
        go_ret
        exact ⟨.inr ⟨Hn.out, rfl⟩, Ho.out⟩

theorem or_disj (a b i : Nat) (hb : b < 2 ^ i) (ha : a * 2 ^ i + b < 9223372036854775808) : bits BinOp.or IntKind.i64 (b : Int) ((a : Int) * 2 ^ i) = ((a * 2 ^ i + b : Nat) : Int) := by
  have hp : 0 ≤ a * 2 ^ i := Nat.zero_le _
  have e : bits BinOp.or IntKind.i64 (b : Int) ((a * 2 ^ i : Nat) : Int) = ((b ||| a * 2 ^ i : Nat) : Int) := by
    show IntKind.i64.wrap ((BitVec.ofInt 64 (b : Int) ||| BitVec.ofInt 64 ((a * 2 ^ i : Nat) : Int)).toNat : Int) = _
    have hx : b ||| a * 2 ^ i < 2 ^ 63 := Nat.or_lt_two_pow (by omega) (by omega)
    rw [BitVec.toNat_or, BitVec.ofInt_natCast, BitVec.ofInt_natCast, BitVec.toNat_ofNat, BitVec.toNat_ofNat, Nat.mod_eq_of_lt (by omega), Nat.mod_eq_of_lt (by omega), IntKind.wrap_i64]
    omega
  have e2 : b ||| a * 2 ^ i = a * 2 ^ i + b := by
    have := Nat.two_pow_add_eq_or_of_lt (i := i) (b := b) hb a
    rw [Nat.or_comm, Nat.mul_comm, ← this]
  rw [← e2, ← e]
  congr 1

theorem and127u8 (c : Nat) (h : c < 256) : wrap64 (bits BinOp.and IntKind.u8 (c : Int) 127) = ((c % 128 : Nat) : Int) := by
  have hm := bits_mask .u8 8 (by decide) wraps_u8 7 (by decide) (c : Int) (by omega) (by omega)
  rw [show ((2 : Int) ^ 7 - 1) = 127 from rfl, show ((2 : Int) ^ 7) = 128 from rfl] at hm
  rw [hm, IntWalk.wrap64_in _ (by omega)]; omega

theorem or_step (a b i : Nat) (hb : b < 2 ^ i) (ha : a < 128) (hi : 128 * 2 ^ i ≤ 34359738368) : bits BinOp.or IntKind.i64 (b : Int) (wrap64 ((a : Int) * ((2 ^ i : Nat) : Int))) = ((a * 2 ^ i + b : Nat) : Int) := by
  have h1 : a * 2 ^ i + b ≤ 128 * 2 ^ i := by
    have : (a + 1) * 2 ^ i ≤ 128 * 2 ^ i := Nat.mul_le_mul_right _ (by omega)
    rw [Nat.add_mul] at this; omega
  have e : ((a : Int) * ((2 ^ i : Nat) : Int)) = ((a * 2 ^ i : Nat) : Int) := by simp
  have := or_disj a b i hb (by omega)
  rw [e, IntWalk.wrap64_in _ (by omega), ← this]
  congr 1

theorem fold_or (c0 c1 c2 c3 c4 : Nat) (h0 : c0 < 256) (h1 : c1 < 256) (h2 : c2 < 256) (h3 : c3 < 256) (h4 : c4 < 256) :
    bits BinOp.or IntKind.i64 (bits BinOp.or IntKind.i64 (bits BinOp.or IntKind.i64 (bits BinOp.or IntKind.i64 (bits BinOp.or IntKind.i64 0 (wrap64 (wrap64 (bits BinOp.and IntKind.u8 (c0 : Int) 127))))
      (wrap64 (wrap64 (bits BinOp.and IntKind.u8 (c1 : Int) 127) * 128))) (wrap64 (wrap64 (bits BinOp.and IntKind.u8 (c2 : Int) 127) * 16384))) (wrap64 (wrap64 (bits BinOp.and IntKind.u8 (c3 : Int) 127) * 2097152)))
      (wrap64 (wrap64 (bits BinOp.and IntKind.u8 (c4 : Int) 127) * 268435456)) = ((c0 % 128 + 128 * (c1 % 128 + 128 * (c2 % 128 + 128 * (c3 % 128 + 128 * (c4 % 128)))) : Nat) : Int) := by
  rw [and127u8 c0 h0, and127u8 c1 h1, and127u8 c2 h2, and127u8 c3 h3, and127u8 c4 h4]
  have s0 := or_step (c0 % 128) 0 0 (by omega) (by omega) (by omega)
  rw [show (((c0 % 128 : Nat) : Int) * ((2 ^ 0 : Nat) : Int)) = ((c0 % 128 : Nat) : Int) by simp, show ((0 : Nat) : Int) = 0 from rfl] at s0
  rw [s0]
  have s1 := or_step (c1 % 128) (c0 % 128 * 2 ^ 0 + 0) 7 (by omega) (by omega) (by omega)
  rw [show ((2 ^ 7 : Nat) : Int) = 128 from rfl] at s1
  rw [s1]
  have s2 := or_step (c2 % 128) (c1 % 128 * 2 ^ 7 + (c0 % 128 * 2 ^ 0 + 0)) 14 (by omega) (by omega) (by omega)
  rw [show ((2 ^ 14 : Nat) : Int) = 16384 from rfl] at s2
  rw [s2]
  have s3 := or_step (c3 % 128) (c2 % 128 * 2 ^ 14 + (c1 % 128 * 2 ^ 7 + (c0 % 128 * 2 ^ 0 + 0))) 21 (by omega) (by omega) (by omega)
  rw [show ((2 ^ 21 : Nat) : Int) = 2097152 from rfl] at s3
  rw [s3]
  have s4 := or_step (c4 % 128) (c3 % 128 * 2 ^ 21 + (c2 % 128 * 2 ^ 14 + (c1 % 128 * 2 ^ 7 + (c0 % 128 * 2 ^ 0 + 0)))) 28 (by omega) (by omega) (by omega)
  rw [show ((2 ^ 28 : Nat) : Int) = 268435456 from rfl] at s4
  rw [s4]
  omega

set_option maxHeartbeats 1000000 in
theorem iFoldedIn (c0 c1 c2 c3 c4 : Nat) (w : World) (h0 : c0 < 256) (h1 : c1 < 256) (h2 : c2 < 256) (h3 : c3 < 256) (h4 : c4 < 256) :
    Calls Try.prog 52 #[.agg #[.int .u8 c0, .int .u8 c1, .int .u8 c2, .int .u8 c3, .int .u8 c4]] w fun e w' =>
      e = .returned (.int .i64 ((c0 % 128 + 128 * (c1 % 128 + 128 * (c2 % 128 + 128 * (c3 % 128 + 128 * (c4 % 128)))) : Nat))) ∧ Below w.heap.size w w' := by
  have i0 : ∀ W, (Instr.index 57 (.agg #[.int .u8 c0, .int .u8 c1, .int .u8 c2, .int .u8 c3, .int .u8 c4]) (.int .i64 0)).run Try.prog W = .ok (.int .u8 c0) W := fun _ => by kernel_rfl
  have i1 : ∀ W, (Instr.index 57 (.agg #[.int .u8 c0, .int .u8 c1, .int .u8 c2, .int .u8 c3, .int .u8 c4]) (.int .i64 1)).run Try.prog W = .ok (.int .u8 c1) W := fun _ => by kernel_rfl
  have i2 : ∀ W, (Instr.index 57 (.agg #[.int .u8 c0, .int .u8 c1, .int .u8 c2, .int .u8 c3, .int .u8 c4]) (.int .i64 2)).run Try.prog W = .ok (.int .u8 c2) W := fun _ => by kernel_rfl
  have i3 : ∀ W, (Instr.index 57 (.agg #[.int .u8 c0, .int .u8 c1, .int .u8 c2, .int .u8 c3, .int .u8 c4]) (.int .i64 3)).run Try.prog W = .ok (.int .u8 c3) W := fun _ => by kernel_rfl
  have i4 : ∀ W, (Instr.index 57 (.agg #[.int .u8 c0, .int .u8 c1, .int .u8 c2, .int .u8 c3, .int .u8 c4]) (.int .i64 4)).run Try.prog W = .ok (.int .u8 c4) W := fun _ => by kernel_rfl
  go_enter Try.func52, Try.ntmps52
  go_wp2_with fail
  go_rounds 6
  go_ret
  refine ⟨?_, ?_⟩
  · rw [← fold_or c0 c1 c2 c3 c4 h0 h1 h2 h3 h4]; rfl
  · go_grown

end Go.Proofs.Ytplmpjdlgooffaa
