/-
  What is proved: contracts of the model's reader of numbers, and the walk of ReadNum's law. No condition beside what each theorem states.
-/
import Derived.Test.YtplmpjdlgooffaaReadNum2
import Derived.Deep.RegionHeld3
namespace Go.Proofs.Ytplmpjdlgooffaa
open Go.ChangeShapes Go.WideShapes Go.ChangeAt Go.RowKit

theorem val_snoc (l : List Int) (c : Int) : val (l ++ [c]) = val l + 128 ^ l.length * (c.toNat % 128) := by
  induction l with
  | nil => simp [val]
  | cons d l ih => simp only [List.cons_append, val, ih, List.length_cons, Nat.pow_succ, Nat.mul_add]; rw [show 128 * (128 ^ l.length * (c.toNat % 128)) = 128 ^ l.length * 128 * (c.toNat % 128) by rw [Nat.mul_comm (128 ^ l.length) 128, Nat.mul_assoc]]; omega

theorem val_lt (l : List Int) : val l < 128 ^ l.length := by
  induction l with
  | nil => simp [val]
  | cons d l ih => simp only [val, List.length_cons, Nat.pow_succ]; omega

theorem num_step (b : ByteArray) (k j V P c : Nat) (hj : j < 5) (hV : val (taken b k j) = V) (hP : 128 ^ j = P) (hc : byteAt b (k + j) = c) : wrap64 ((V : Int) + wrap64 ((c : Int) % 128 * (P : Int))) = ((val (taken b k (j + 1)) : Nat) : Int) := by
  have h1 : val (taken b k (j + 1)) = V + P * (c % 128) := by rw [taken_snoc, val_snoc, taken_len, hV, hP, hc]; rfl
  have h2 : val (taken b k (j + 1)) < 128 ^ 5 := Nat.lt_of_lt_of_le (val_lt _) (by rw [taken_len]; exact Nat.pow_le_pow_right (by decide) (by omega))
  have e : ((c : Int) % 128 * (P : Int)) = ((P * (c % 128) : Nat) : Int) := by rw [Int.natCast_mul, Int.mul_comm]; rfl
  have h3 : P * (c % 128) ≤ V + P * (c % 128) := Nat.le_add_left _ _
  rw [e, h1]
  rw [h1] at h2
  generalize P * (c % 128) = M at *
  rw [IntWalk.wrap64_in (M : Int) (by omega), IntWalk.wrap64_in _ (by omega)]
  omega

theorem cutTo (b : ByteArray) (k m : Nat) (hk : k ≤ m) (hb : m ≤ b.size) (W : World) : (Instr.slice 9 (.string b) (some (.int .i64 (k : Int))) (some (.int .i64 (m : Int))) none).run Try.prog W = .ok (.string (b.extract k m)) W := by
  have := run_slice_string (P := Try.prog) W 9 b .i64 .i64 (k : Int) (m : Int) Try.underlying9 (by omega) (by omega) (by omega)
  rw [this, show ((k : Int)).toNat = k by omega, show ((m : Int)).toNat = m by omega]

theorem ext_taken (b : ByteArray) (k j : Nat) (h : k + j ≤ b.size) : b.extract k (k + j) = strOfNums (taken b k j) := by
  apply ByteArray.ext
  apply Array.ext
  · have := strOfNums_size (taken b k j)
    rw [taken_len] at this
    have e : (b.extract k (k + j)).size = j := by rw [ByteArray.size_extract]; omega
    exact e.trans this.symm
  · intro i h1 h2
    have hi : i < j := by have := strOfNums_size (taken b k j); rw [taken_len] at this; exact Nat.lt_of_lt_of_eq h2 this
    have e1 : (b.extract k (k + j)).data[i] = b.data[k + i]'(by have : b.size = b.data.size := rfl; omega) := by
      simp [ByteArray.data_extract]
    rw [e1]
    have e2 : (strOfNums (taken b k j)).data[i] = UInt8.ofNat (byteAt b (k + i)).toNat := by simp [strOfNums, taken]
    rw [e2]
    unfold byteAt
    rw [dif_pos (by omega)]
    have hz : k + i < b.data.size := by have : b.size = b.data.size := rfl; omega
    show b.data[k + i] = UInt8.ofNat ((b.data[k + i]).toNat : Int).toNat
    simp

theorem strs_eq (b : ByteArray) (k j : Nat) (l : List Int) (h : k + j ≤ b.size) (hl : ∀ c ∈ l, 0 ≤ c ∧ c < 256) (ok : Bool) (hok : ok = true ↔ l = taken b k j) : ((strOfNums l).toList == (b.extract k (k + j)).toList) = ok := by
  rw [Bool.eq_iff_iff, hok, ext_taken b k j h]
  constructor
  · intro e
    have e1 : strOfNums l = strOfNums (taken b k j) := by
      have := eq_of_beq e
      rw [ByteArray.toList_eq, ByteArray.toList_eq] at this
      exact bytes_inj this
    exact strOfNums_inj hl (taken_bd b k j) e1
  · rintro rfl; simp

theorem term_ne (b : ByteArray) (k j : Nat) (h : ∀ i, i < j → 128 ≤ byteAt b (k + i)) : ¬ Term (taken b k j) := by
  have key : ∀ (l : List Int), (∀ c ∈ l, 128 ≤ c) → ¬ Term l := by
    intro l
    induction l with
    | nil => intro _ h; exact h
    | cons c l ih =>
      intro hl ht
      rcases ht with ⟨_, _, h2⟩ | ⟨_, _, h3⟩
      · have := hl c (by simp); omega
      · exact ih (fun d hd => hl d (by simp [hd])) h3
  refine key _ (fun c hc => ?_)
  obtain ⟨i, hi, rfl⟩ := List.mem_map.1 hc
  exact h i (List.mem_range.1 hi)

/-- What is left behind a fault. -/
def Spoilt (g : Nat) (t : TypeId) (b : ByteArray) (w w' : World) : Prop := (∃ k' : Int, Box w' g t (rd b k' true)) ∧ Only g w w'

set_option maxRecDepth 100000 in
set_option maxHeartbeats 2000000 in
theorem sNum_none (g k : Nat) (b : ByteArray) (w : World) (hb : b.size ≤ 3000) (hk : k ≤ b.size) (hr : Box w g 69 (rd b k false)) (h : ∀ j, ¬ stops b k j) :
    Calls Try.prog 57 #[.pointer (some ⟨g, 0, none⟩)] w fun e w' => e = .returned (.int .i64 0) ∧ Spoilt g 69 b w w' := by
  have Hh := Lib.hid h
  have c1 := hr.cell 1
  simp at c1
  clear h
  go_enter Try.func57, Try.ntmps57
  go_wp2_with fail
  go_loopw [4, 5, 6] (fun n by_ i wr => ∃ j : Nat, i = .int .i64 j ∧ j ≤ 5 ∧ k + j ≤ b.size ∧ n = .int .i64 (val (taken b k j)) ∧ by_ = .int .i64 (128 ^ j : Nat) ∧ (∀ i, i < j → 128 ≤ byteAt b (k + i)) ∧ Box wr g 69 (rd b (k + j : Nat) false) ∧ Only g w wr) (fun _ _ i _ => 5 - (intOf i).toNat)
  case atStart => exact ⟨0, rfl, by omega, by omega, rfl, rfl, fun i hi => absurd hi (by omega), hr, Only.refl _ _⟩
  case round =>
    clear c1
    obtain ⟨j, rfl, hj5, hjs, rfl, rfl, hhi, hb1, ho1⟩ := hrel
    have Hhi := Lib.hid hhi
    clear hhi hr
    have hvl : val (taken b k j) < 128 ^ j := by have := val_lt (taken b k j); rwa [taken_len] at this
    have hpw : 128 ^ j ≤ 34359738368 := by
      have : 128 ^ j ≤ 128 ^ 5 := Nat.pow_le_pow_right (by decide) hj5
      simpa using this
    generalize hV : val (taken b k j) = V at *
    have HV := Lib.hid hV
    clear hV
    generalize hP : 128 ^ j = P at *
    have HP := Lib.hid hP
    clear hP
    by_cases hlt : j < 5
    · by_cases hs : k + j < b.size
      · go_wp2_with fail
        refine (sByte_ok g (k + j) b _ hb hb1 hs).mono ?_
        rintro e w2 ⟨rfl, hr2, ho2⟩
        have h128 : 128 ≤ byteAt b (k + j) := by
          by_cases h : byteAt b (k + j) < 128
          · exact absurd ⟨hs, hlt, Hhi.out, h⟩ (Hh.out j)
          · omega
        have hc := byteAt_le b (k + j)
        obtain ⟨c, hc2⟩ := Int.eq_ofNat_of_zero_le hc.1
        have Hc := Lib.hid hc2
        rw [hc2] at h128 hc ⊢
        clear hc2
        go_wp2_with fail
        refine ⟨⟨j + 1, by congr 1, by omega, by omega, by rw [num_step b k j V P c hlt HV.out HP.out Hc.out], by rw [Nat.pow_succ, HP.out]; congr 1, fun i hi => ?_, hr2, ho1.trans ho2⟩, by simp [intOf]; omega⟩
        by_cases e : i = j
        · rw [e, Hc.out]; exact h128
        · exact Hhi.out i (by omega)
      · go_wp2_with fail
        refine (sByte_end g (k + j) b false _ hb1 (.inr (by omega))).mono ?_
        rintro e w2 ⟨rfl, hr2, ho2⟩
        have c2 := hr2.cell 2
        have f2 := hr2.free 2
        simp at c2
        have Hr := Lib.hid hr2
        have Ho := Lib.hid (ho1.trans ho2)
        clear hr2 ho2 ho1 hb1
        go_wp2_with fail
        go_quiet (fail)
        go_wp2_with fail
        go_ret
        exact ⟨rfl, ⟨_, (Hr.out.drewN _).set 2 _⟩, (Ho.out.drewN _).set 2 _⟩
    · obtain rfl : j = 5 := by omega
      obtain ⟨m, hm⟩ : ∃ m, m = k + 5 := ⟨_, rfl⟩
      have hkm : k ≤ m := by omega
      rw [← hm] at hb1 hjs
      have Hm := Lib.hid hm
      clear hm
      have c0 := hb1.cell 0
      have c1 := hb1.cell 1
      have c2 := hb1.cell 2
      have f2 := hb1.free 2
      simp at c0 c1 c2
      have Hr := Lib.hid hb1
      have Ho := Lib.hid ho1
      clear hb1 ho1
      by_cases hbig : 2000000000 < V
      · have d1 : decide (2000000000 < (V : Int)) = true := by simp; omega
        go_wp2_with fail
        go_quiet (fail)
        go_wp2_with fail
        go_ret
        exact ⟨rfl, ⟨_, (Hr.out.drewN _).set 2 _⟩, (Ho.out.drewN _).set 2 _⟩
      · have d1 : decide (2000000000 < (V : Int)) = false := by simp; omega
        have hz := openZ_bd (n := V) (by omega) (by omega)
        have hg := Hr.out.lt
        have hsl := fun W => cutTo b k m hkm hjs W
        have hne : ((strOfNums (vb V)).toList == (b.extract k m).toList) = false := by
          rw [Hm.out]
          exact strs_eq b k 5 (vb V) (by rw [← Hm.out]; exact hjs) (term_bd (vb_term V)) false ⟨(fun h => by cases h), fun h => absurd (h ▸ vb_term V) (term_ne b k 5 Hhi.out)⟩
        go_wp2_with fail
        go_region_held3 (fun w' => w'.cell? ⟨g, 0, none⟩ = some (.string b) ∧ w'.cell? ⟨g, 1, none⟩ = some (.int .i64 (m : Int)) ∧ w'.cell? ⟨g, 2, none⟩ = some (.bool false))
          (first
            | go_keep
            | (go_split_ands
               refine ⟨?_, ?_, ?_⟩ <;> (rw [hb2.cell (by simp; omega)]; assumption)))
          (first
            | (go_at_call 60; refine (sl1Open V _ (by omega) (by omega)).mono ?_; rintro e w' ⟨rfl, rfl⟩)
            | (go_at_call 49; refine (sl1NumBytes (openZ V) V _ hz.1 hz.2 (foldZ_openZ (by omega))).mono ?_; rintro e w2 ⟨rfl, hb2⟩))
        have hr2 := (Hr.out.drew).below hb2 (by simpa using hg)
        have f2' := hr2.free 2
        have Hr2 := Lib.hid hr2
        have Ho2 := Lib.hid (Ho.out.drew.trans (Only.ofBelow hb2))
        clear hr2 hb2
        go_wp2_with fail
        go_ret
        exact ⟨rfl, ⟨_, Hr2.out.set 2 _⟩, Ho2.out.set 2 _⟩

end Go.Proofs.Ytplmpjdlgooffaa
