/-
  What is proved: contracts of ReadNum of the program. No condition beside what each theorem states.
-/
import Derived.Test.YtplmpjdlgooffaaReadNum
import Derived.Laws.Rows
namespace Go.Proofs.Ytplmpjdlgooffaa
open Go.ChangeShapes Go.WideShapes Go.ChangeAt Go.RowKit

theorem byteAt_drop (b : ByteArray) (k i : Nat) (hk : k ≤ b.size) : byteAt (b.extract k b.size) i = byteAt b (k + i) := by
  unfold byteAt
  by_cases h : k + i < b.size
  · rw [dif_pos (by simp; omega), dif_pos h]
    simp [ByteArray.getElem_extract]
  · rw [dif_neg (by simp; omega), dif_neg h]

theorem stops_drop (b : ByteArray) (k j : Nat) (hk : k ≤ b.size) : stops (b.extract k b.size) 0 j ↔ stops b k j := by
  unfold stops
  simp only [Nat.zero_add, byteAt_drop b k _ hk, ByteArray.size_extract]
  constructor <;> (rintro ⟨h1, h2, h3, h4⟩; exact ⟨by omega, h2, h3, h4⟩)

theorem taken_drop (b : ByteArray) (k j : Nat) (hk : k ≤ b.size) : taken (b.extract k b.size) 0 j = taken b k j := by
  unfold taken
  simp only [Nat.zero_add, byteAt_drop b k _ hk]

theorem stops_uniq {b : ByteArray} {k i j : Nat} (h : stops b k i) (h' : stops b k j) : i = j := by
  obtain ⟨_, _, a1, a2⟩ := h
  obtain ⟨_, _, b1, b2⟩ := h'
  rcases Nat.lt_trichotomy i j with h | h | h
  · have := b1 i h; omega
  · exact h
  · have := a1 j h; omega

theorem val_zeros (m : Nat) : val (List.replicate m 0) = 0 := by
  induction m with
  | zero => rfl
  | succ m ih => simp [List.replicate_succ, val, ih]

theorem val_pad (l : List Int) (m : Nat) : val (l ++ List.replicate m 0) = val l := by
  induction l with
  | nil => simp [val_zeros, val]
  | cons c l ih => simp [val, ih]

theorem five {l : List Int} (hl : l.length ≤ 5) (hb : ∀ c ∈ l, 0 ≤ c ∧ c < 256) : ∃ c0 c1 c2 c3 c4 : Nat, c0 < 256 ∧ c1 < 256 ∧ c2 < 256 ∧ c3 < 256 ∧ c4 < 256 ∧
    boxOf l = #[.int .u8 c0, .int .u8 c1, .int .u8 c2, .int .u8 c3, .int .u8 c4] ∧ val l = c0 % 128 + 128 * (c1 % 128 + 128 * (c2 % 128 + 128 * (c3 % 128 + 128 * (c4 % 128)))) := by
  have hp : (pad 5 l).length = 5 := by simp [pad]; omega
  have hall : ∀ c ∈ pad 5 l, 0 ≤ c ∧ c < 256 := by
    intro c hc
    rcases List.mem_append.1 hc with h | h
    · exact hb c h
    · rw [List.mem_replicate] at h; omega
  have hv : val (pad 5 l) = val l := val_pad l _
  rw [← hv]
  unfold boxOf
  generalize pad 5 l = p at *
  match p, hp with
  | [d0, d1, d2, d3, d4], _ =>
    obtain ⟨c0, rfl⟩ := Int.eq_ofNat_of_zero_le (hall d0 (by simp)).1
    obtain ⟨c1, rfl⟩ := Int.eq_ofNat_of_zero_le (hall d1 (by simp)).1
    obtain ⟨c2, rfl⟩ := Int.eq_ofNat_of_zero_le (hall d2 (by simp)).1
    obtain ⟨c3, rfl⟩ := Int.eq_ofNat_of_zero_le (hall d3 (by simp)).1
    obtain ⟨c4, rfl⟩ := Int.eq_ofNat_of_zero_le (hall d4 (by simp)).1
    refine ⟨c0, c1, c2, c3, c4, ?_, ?_, ?_, ?_, ?_, rfl, ?_⟩
    · have := (hall c0 (by simp)).2; omega
    · have := (hall c1 (by simp)).2; omega
    · have := (hall c2 (by simp)).2; omega
    · have := (hall c3 (by simp)).2; omega
    · have := (hall c4 (by simp)).2; omega
    · simp [val]

theorem iFoldedN (c0 c1 c2 c3 c4 n : Nat) (w : World) (h0 : c0 < 256) (h1 : c1 < 256) (h2 : c2 < 256) (h3 : c3 < 256) (h4 : c4 < 256) (hn : n = c0 % 128 + 128 * (c1 % 128 + 128 * (c2 % 128 + 128 * (c3 % 128 + 128 * (c4 % 128))))) :
    Calls Try.prog 52 #[.agg #[.int .u8 c0, .int .u8 c1, .int .u8 c2, .int .u8 c3, .int .u8 c4]] w fun e w' => e = .returned (.int .i64 n) ∧ Below w.heap.size w w' := by
  rw [hn]
  exact iFoldedIn c0 c1 c2 c3 c4 w h0 h1 h2 h3 h4

theorem taken_bd (b : ByteArray) (k j : Nat) : ∀ c ∈ taken b k j, 0 ≤ c ∧ c < 256 := by
  intro c hc
  obtain ⟨i, _, rfl⟩ := List.mem_map.1 hc
  have := byteAt_le b (k + i)
  omega

theorem eqItems8 (xs ys : Array Value) (f g : Nat → Int) (w : World) : ∀ (is : List Nat), (∀ i ∈ is, xs[i]? = some (.int .u8 (f i)) ∧ ys[i]? = some (.int .u8 (g i))) →
    (Op.eqItems 9999 5 1 xs ys is).run Try.prog w = .ok (is.all fun i => f i == g i) w
  | [], _ => by simp [Op.eqItems]
  | i :: is, h => by
    have hk : Try.prog.plainKey 5 = true := by kernel_rfl
    have ku : ∀ (a b : Int) (W : World), (Op.equalIn 9999 5 (.int .u8 a) (.int .u8 b)).run Try.prog W = .ok (a == b) W := fun a b W => run_equalIn_int W 9998 5 .u8 .u8 a b Try.underlying5
    obtain ⟨h1, h2⟩ := h i (by simp)
    have ih := eqItems8 xs ys f g w is (fun j hj => h j (by simp [hj]))
    simp only [Op.eqItems, Sem.run_bind, Nat.mul_one, run_part_plain w hk h1, run_part_plain w hk h2, ku, Result.andThen_ok, List.all_cons]
    cases f i == g i
    · simp
    · simp [ih]

theorem eqBox (c0 c1 c2 c3 c4 d0 d1 d2 d3 d4 : Nat) (ok : Bool) (hok : ok = true ↔ (c0 = d0 ∧ c1 = d1 ∧ c2 = d2 ∧ c3 = d3 ∧ c4 = d4)) (w : World) :
    (Op.equalIn 10000 57 (.agg #[.int .u8 c0, .int .u8 c1, .int .u8 c2, .int .u8 c3, .int .u8 c4]) (.agg #[.int .u8 d0, .int .u8 d1, .int .u8 d2, .int .u8 d3, .int .u8 d4])).run Try.prog w = .ok ok w := by
  have hu : Try.prog.underlying 57 = some (.array 5 5) := by kernel_rfl
  have hc : Try.prog.cellsOf 5 = 1 := by kernel_rfl
  obtain ⟨i0, hi0, _, _, _⟩ := info_parts info8
  rw [show (10000 : Nat) = 9999 + 1 from rfl, run_equalIn_array w 9999 _ _ hu hi0, hc]
  rw [eqItems8 _ _ (fun i => (([c0, c1, c2, c3, c4].getD i 0 : Nat) : Int)) (fun i => (([d0, d1, d2, d3, d4].getD i 0 : Nat) : Int)) w (List.range 5) (fun i hi => by
    have : i = 0 ∨ i = 1 ∨ i = 2 ∨ i = 3 ∨ i = 4 := by have := List.mem_range.1 hi; omega
    rcases this with rfl | rfl | rfl | rfl | rfl <;> exact ⟨rfl, rfl⟩)]
  congr 1
  rw [Bool.eq_iff_iff, hok]
  simp [show List.range 5 = [0, 1, 2, 3, 4] from rfl]
  omega

set_option maxHeartbeats 1000000 in
theorem iReadNum_none (b : ByteArray) (k : Nat) (w : World) (hb : b.size ≤ 3000) (hk : k ≤ b.size) (h : ∀ j, ¬ stops b k j) :
    Calls Try.prog 19 #[.string b, .int .i64 k] w fun e w' => e = .returned (.tuple #[.int .i64 0, .int .i64 0, .bool false]) ∧ Below w.heap.size w w' := by
  have Hx := Lib.hid (fun j => (stops_drop b k j hk))
  have Hs : Hid ((b.extract k b.size).size ≤ 3000) := by show _ ≤ _; rw [ByteArray.size_extract]; omega
  have Hh := Lib.hid h
  clear h
  go_enter Try.func19, Try.ntmps19
  go_wp2_with (go_at_call 50; refine (iPlace_yes _ _ _ hb (by omega) (by omega)).mono ?_; rintro e w' ⟨rfl, rfl⟩)
  refine (iCutBox _ _ _ _ Hs.out (Box.new w _ _)).mono ?_
  rintro e w1 ⟨h1, ho1⟩
  rcases h1 with ⟨j, hj, _⟩ | ⟨_, rfl⟩
  · exact absurd ((Hx.out j).1 hj) (Hh.out j)
  have Ho := Lib.hid ((((Below.refl w.heap.size w).alloc (Nat.le_refl _) _).trans (ho1.below (Nat.le_refl _) (by simp))))
  clear ho1
  go_wp2_with fail
  go_ret3
  exact ⟨rfl, Ho.out⟩

set_option maxHeartbeats 1000000 in
theorem iReadNum_big (b : ByteArray) (k j n : Nat) (w : World) (hb : b.size ≤ 3000) (hk : k ≤ b.size) (h : stops b k j) (hn : val (taken b k (j + 1)) = n) (hbig : 2000000000 < n) :
    Calls Try.prog 19 #[.string b, .int .i64 k] w fun e w' => e = .returned (.tuple #[.int .i64 0, .int .i64 0, .bool false]) ∧ Below w.heap.size w w' := by
  have Hx := Lib.hid (fun j => (stops_drop b k j hk))
  have Hs : Hid ((b.extract k b.size).size ≤ 3000) := by show _ ≤ _; rw [ByteArray.size_extract]; omega
  have Hh := Lib.hid h
  have Ht := Lib.hid (taken_drop b k (j + 1) hk)
  have Hn := Lib.hid hn
  have hj5 := h.2.1
  clear h hn
  go_enter Try.func19, Try.ntmps19
  go_wp2_with (go_at_call 50; refine (iPlace_yes _ _ _ hb (by omega) (by omega)).mono ?_; rintro e w' ⟨rfl, rfl⟩)
  refine (iCutBox _ _ _ _ Hs.out (Box.new w _ _)).mono ?_
  rintro e w1 ⟨h1, ho1⟩
  rcases h1 with ⟨j', hj', rfl, hb1⟩ | ⟨hno, rfl⟩
  · obtain rfl := stops_uniq ((Hx.out _).1 hj') Hh.out
    rw [Ht.out] at hb1
    have hj2 : (((j' + 1 : Nat) : Int) == 0) = false := beq_eq_false_iff_ne.2 (by omega)
    clear hj'
    obtain ⟨c0, c1, c2, c3, c4, q0, q1, q2, q3, q4, hB, hv⟩ := five (l := taken b k (j' + 1)) (by rw [taken_len]; omega) (taken_bd _ _ _)
    rw [hB] at hb1
    have Hv := Lib.hid (Hn.out.symm.trans hv)
    have e0 := hb1.cell 0
    have e1 := hb1.cell 1
    have e2 := hb1.cell 2
    have e3 := hb1.cell 3
    have e4 := hb1.cell 4
    simp at e0 e1 e2 e3 e4
    have Ho := Lib.hid ((((Below.refl w.heap.size w).alloc (Nat.le_refl _) _).trans (ho1.below (Nat.le_refl _) (by simp))))
    clear hb1 hB hv ho1
    go_wp2_with (first | (go_at_call 52; refine (iFoldedN c0 c1 c2 c3 c4 n _ q0 q1 q2 q3 q4 Hv.out).mono ?_; rintro e w2 ⟨rfl, hb2⟩) | (go_at_call 26; refine (iOpen_out _ _ (by omega)).mono ?_; rintro e w3 ⟨rfl, rfl⟩))
    go_ret3
    exact ⟨rfl, Ho.out.trans (hb2.mono Ho.out.size)⟩
  · exact absurd ((Hx.out _).2 Hh.out) (hno j)

set_option maxHeartbeats 1000000 in
theorem iReadNum_in (b : ByteArray) (k j n : Nat) (w : World) (hb : b.size ≤ 3000) (hk : k ≤ b.size) (h : stops b k j) (hn : val (taken b k (j + 1)) = n) (hbig : n ≤ 2000000000) (ok : Bool) (hok : ok = true ↔ taken b k (j + 1) = vb n) :
    Calls Try.prog 19 #[.string b, .int .i64 k] w fun e w' => e = .returned (.tuple #[.int .i64 (if ok then openZ n else 0), .int .i64 (if ok then (k + (j + 1) : Nat) else 0), .bool ok]) ∧ Below w.heap.size w w' := by
  have Hx := Lib.hid (fun j => (stops_drop b k j hk))
  have Hs : Hid ((b.extract k b.size).size ≤ 3000) := by show _ ≤ _; rw [ByteArray.size_extract]; omega
  have Hh := Lib.hid h
  have Ht := Lib.hid (taken_drop b k (j + 1) hk)
  have Hn := Lib.hid hn
  have Hok := Lib.hid hok
  have hj5 := h.2.1
  clear h hn hok
  go_enter Try.func19, Try.ntmps19
  go_wp2_with (go_at_call 50; refine (iPlace_yes _ _ _ hb (by omega) (by omega)).mono ?_; rintro e w' ⟨rfl, rfl⟩)
  refine (iCutBox _ _ _ _ Hs.out (Box.new w _ _)).mono ?_
  rintro e w1 ⟨h1, ho1⟩
  rcases h1 with ⟨j', hj', rfl, hb1⟩ | ⟨hno, rfl⟩
  · obtain rfl := stops_uniq ((Hx.out _).1 hj') Hh.out
    rw [Ht.out] at hb1
    have hj2 : (((j' + 1 : Nat) : Int) == 0) = false := beq_eq_false_iff_ne.2 (by omega)
    clear hj'
    obtain ⟨c0, c1, c2, c3, c4, q0, q1, q2, q3, q4, hB, hv⟩ := five (l := taken b k (j' + 1)) (by rw [taken_len]; omega) (taken_bd _ _ _)
    rw [hB] at hb1
    have Hv := Lib.hid (Hn.out.symm.trans hv)
    have HB := Lib.hid hB
    have e0 := hb1.cell 0
    have e1 := hb1.cell 1
    have e2 := hb1.cell 2
    have e3 := hb1.cell 3
    have e4 := hb1.cell 4
    simp at e0 e1 e2 e3 e4
    have Hb1 := Lib.hid hb1
    have Ho := Lib.hid ((((Below.refl w.heap.size w).alloc (Nat.le_refl _) _).trans (ho1.below (Nat.le_refl _) (by simp))))
    clear hb1 hB hv ho1
    go_wp2_with (first | (go_at_call 52; refine (iFoldedN c0 c1 c2 c3 c4 n _ q0 q1 q2 q3 q4 Hv.out).mono ?_; rintro e w2 ⟨rfl, hb2⟩) | (go_at_call 26; refine (iOpen_in _ _ (by omega) (by omega)).mono ?_; rintro e w3 ⟨rfl, rfl⟩))
    clear e0 e1 e2 e3 e4
    refine (iFillBox _ n _ _ hbig (Box.new w2 _ _)).mono ?_
    rintro e w4 ⟨rfl, hr4, ho4⟩
    have hlt := Hb1.out.lt
    have hr1 := ((Hb1.out.below hb2 hlt).alloc (.cells (boxOf []) 57)).only ho4 (by have := hb2.size; omega)
    have Hbel := Lib.hid ((Ho.out.trans (hb2.mono Ho.out.size)).trans ((((Below.refl w.heap.size w2).alloc (by have := Ho.out.size; have := hb2.size; omega) (.cells (boxOf []) 57))).trans (ho4.below (by have := Ho.out.size; have := hb2.size; omega) (by simp))))
    obtain ⟨d0, d1, d2, d3, d4, _, _, _, _, _, hD, _⟩ := five (l := vb n) (vb_len 4 n (by omega)) (term_bd (vb_term n))
    have Heq : Hid (ok = true ↔ (c0 = d0 ∧ c1 = d1 ∧ c2 = d2 ∧ c3 = d3 ∧ c4 = d4)) := by
      show _ ↔ _
      rw [Hok.out]
      constructor
      · intro e
        have := HB.out
        rw [e, hD] at this
        simp at this
        omega
      · rintro ⟨rfl, rfl, rfl, rfl, rfl⟩
        exact boxOf_inj (stops_term Hh.out) (vb_term n) (by rw [taken_len]; omega) (vb_len 4 n (by omega)) (HB.out.trans hD.symm)
    rw [hD] at hr4
    have e0 := hr1.cell 0
    have e1 := hr1.cell 1
    have e2 := hr1.cell 2
    have e3 := hr1.cell 3
    have e4 := hr1.cell 4
    have g0 := hr4.cell 0
    have g1 := hr4.cell 1
    have g2 := hr4.cell 2
    have g3 := hr4.cell 3
    have g4 := hr4.cell 4
    simp at e0 e1 e2 e3 e4 g0 g1 g2 g3 g4
    have ke := eqBox c0 c1 c2 c3 c4 d0 d1 d2 d3 d4 ok Heq.out
    clear hr1 hr4 ho4 hb2 hD hlt
    cases ok
    all_goals
      go_wp2_with fail
      go_ret3
      exact ⟨by congr 2, Hbel.out⟩
  · exact absurd ((Hx.out _).2 Hh.out) (hno j)

end Go.Proofs.Ytplmpjdlgooffaa
