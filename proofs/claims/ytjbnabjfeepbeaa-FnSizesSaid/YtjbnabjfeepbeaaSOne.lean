
/-
  What is proved: a contract of the model's l3One, where each size is known or -1. No condition beside what each theorem states.
-/
import Derived.Test.YtjbnabjfeepbeaaISize
import Derived.Test.YtjbnabjfeepbeaaSFrom
namespace Go.Proofs.Ytjbnabjfeepbeaa
open Go.ChangeShapes Go.WideShapes Go.ChangeAt Go.RowKit

theorem sl1Least (a b : Int) (w : World) : Calls Try.prog 177 #[.int .i64 a, .int .i64 b] w fun e w' => e = .returned (.int .i64 (min a b)) ∧ w = w' := by
  by_cases h : a < b
  · have Hv := Lib.hid (show min a b = a from Int.min_eq_left (by omega))
    go_enter Try.func177, Try.ntmps177
    go_wp2_with fail
    go_ret
    exact ⟨by rw [Hv.out]; rfl, rfl⟩
  · have Hv := Lib.hid (show min a b = b from Int.min_eq_right (by omega))
    go_enter Try.func177, Try.ntmps177
    go_wp2_with fail
    go_ret
    exact ⟨by rw [Hv.out]; rfl, rfl⟩

/-- Each size is known or -1. -/
def halfKnown (l : List TypeD) (zs : List Int) : Prop := zs.length = l.length ∧ ∀ j (h : j < zs.length), zs[j] = -1 ∨ zs[j] = sizeS l (j : Int)
def OneIs (l : List TypeD) (zs : List Int) (t : TypeD) (r : Int) : Prop := r = oneS (sizeS l) t ∨ (r = -1 ∧ ∃ m : Nat, (m : Int) ∈ insideD t ∧ zs[m]? = some (-1))

set_option maxRecDepth 100000 in
set_option maxHeartbeats 4000000 in
theorem sl3One (l : List TypeD) (hg : good l) (n : Nat) (hn : n < l.length) (a3 : Option Addr) (c3 : Nat) (za : Option Addr) (zc : Nat) (zs : List Int) (w : World) (hz : halfKnown l zs) (hr : Rows fieldS Any w a3 l[n].fFields) (hs : Nums w za zs) :
    Calls Try.prog 127 #[.agg #[.int .i64 l[n].fKind, .int .i64 l[n].fLong, .int .i64 l[n].fBase, .slice a3 l[n].fFields.length c3, .string l[n].fOwner, .string l[n].fName], .slice za zs.length zc] w fun e w' => ∃ r, e = .returned (.int .i64 r) ∧ OneIs l zs l[n] r ∧ Below w.heap.size w w' := by
  have hft := hg.1.six l[n] (List.getElem_mem hn)
  have hpl := inside_len hft
  have hmp := hg.1.mParts n hn
  have Hin := Lib.hid (hg.1.inside n hn)
  have Hbd := Lib.hid (fun x => sizeS_bounds hg.1 x)
  have Hlong := Lib.hid (show l[n].fKind = 4 → 0 ≤ l[n].fLong ∧ l[n].fLong ≤ 1000 from fun h4 => by
    rcases hg.1.ok n hn with ⟨h3, hb⟩ | ⟨_, ho⟩
    · have := hb.2.1; omega
    · rcases ho.2 with ⟨_, q, _⟩ | ⟨_, q, _⟩ | ⟨_, q, _⟩ <;> omega)
  have Hz := Lib.hid hz
  have Hs := Lib.hid hs
  have Hr := Lib.hid hr
  have hzl := hz.1
  have h24 := hg.1.most
  clear hz hs hr
  generalize l[n] = t at *
  have Hmp := Lib.hid hmp
  have Hone := Lib.hid (show oneS (sizeS l) t = _ from rfl)
  clear hmp
  by_cases k1 : t.fKind = 1
  · have Hv := Lib.hid (show oneS (sizeS l) t = 4 by unfold oneS; rw [if_pos k1])
    have q1 : (t.fKind == 1) = true := beq_iff_eq.2 k1
    clear k1
    go_enter Try.func127, Try.ntmps127
    go_wp2_with fail
    go_ret
    exact ⟨4, rfl, .inl Hv.out.symm, (Below.refl _ _).alloc (Nat.le_refl _) _⟩
  have q1 : (t.fKind == 1) = false := beq_eq_false_iff_ne.2 k1
  by_cases k2 : t.fKind = 2
  · have Hv := Lib.hid (show oneS (sizeS l) t = 1 by unfold oneS; rw [if_neg k1, if_pos (.inl k2)])
    have q2 : (t.fKind == 2) = true := beq_iff_eq.2 k2
    clear k1 k2
    go_enter Try.func127, Try.ntmps127
    go_wp2_with fail
    go_ret
    exact ⟨1, rfl, .inl Hv.out.symm, (Below.refl _ _).alloc (Nat.le_refl _) _⟩
  have q2 : (t.fKind == 2) = false := beq_eq_false_iff_ne.2 k2
  by_cases k3 : t.fKind = 3
  · have Hv := Lib.hid (show oneS (sizeS l) t = 1 by unfold oneS; rw [if_neg k1, if_pos (.inr k3)])
    have q3 : (t.fKind == 3) = true := beq_iff_eq.2 k3
    clear k1 k2 k3
    go_enter Try.func127, Try.ntmps127
    go_wp2_with fail
    go_ret
    exact ⟨1, rfl, .inl Hv.out.symm, (Below.refl _ _).alloc (Nat.le_refl _) _⟩
  have q3 : (t.fKind == 3) = false := beq_eq_false_iff_ne.2 k3
  have hk23 : ¬ (t.fKind = 2 ∨ t.fKind = 3) := fun h => h.elim k2 k3
  by_cases k6 : t.fKind = 6
  · have Hv := Lib.hid (show oneS (sizeS l) t = 8 by unfold oneS; rw [if_neg k1, if_neg hk23, if_pos k6])
    have q6 : (t.fKind == 6) = true := beq_iff_eq.2 k6
    clear k1 k2 k3 k6 hk23
    go_enter Try.func127, Try.ntmps127
    go_wp2_with fail
    go_ret
    exact ⟨8, rfl, .inl Hv.out.symm, (Below.refl _ _).alloc (Nat.le_refl _) _⟩
  have q6 : (t.fKind == 6) = false := beq_eq_false_iff_ne.2 k6
  have Hv := Lib.hid (show oneS (sizeS l) t = min 1000000001 (sumZ (sizeS l) (insideD t) * (if t.fKind = 4 then t.fLong else 1)) by unfold oneS; rw [if_neg k1, if_neg hk23, if_neg k6])
  clear k1 k2 k3 k6 hk23
  have B0 := Lib.hid ((Below.refl w.heap.size w).alloc (Nat.le_refl _) (.cells #[.int .i64 t.fKind, .int .i64 t.fLong, .int .i64 t.fBase, .slice a3 t.fFields.length c3, .string t.fOwner, .string t.fName] 32))
  have X0 := Lib.hid (Box.new w 32 #[.int .i64 t.fKind, .int .i64 t.fLong, .int .i64 t.fBase, .slice a3 t.fFields.length c3, .string t.fOwner, .string t.fName])
  go_enter Try.func127, Try.ntmps127
  go_wp2_with fail
  refine (sl3Parts t a3 c3 _ (by omega) (Hr.out.below B0.out)).mono ?_
  rintro e w1 ⟨v1, rfl, hown1, hb1⟩
  rw [Hmp.out] at hown1
  obtain ⟨pa, pc, rfl, _, hpn⟩ := hown1.nums
  have N1 := Lib.hid hpn
  have B1 := Lib.hid (B0.out.trans (hb1.mono B0.out.size))
  have X1 := X0.out.below hb1 (by simp)
  have f0 := X1.cell 0
  have f1 := X1.cell 1
  simp at f0 f1
  have S1 := Lib.hid (Hs.out.below B1.out)
  clear hown1 hpn hb1 X1
  go_wp2_with fail
  go_loop [20, 5] (fun i sv => ∃ k : Nat, i = .int .i64 k ∧ sv = .int .i64 (sumZ (sizeS l) ((insideD t).take k)) ∧ k ≤ (insideD t).length) (fun i _ => (insideD t).length - (intOf i).toNat)
  case atStart => exact ⟨0, rfl, rfl, by omega⟩
  case round =>
    obtain ⟨k, rfl, rfl, hk⟩ := hrel
    have hsb := sumZ_bounds Hbd.out ((insideD t).take k)
    have htk : ((insideD t).take k).length ≤ 7 := by rw [List.length_take]; omega
    have hs0 := hsb.1
    have hs1' : sumZ (sizeS l) ((insideD t).take k) ≤ 7000000007 := by
      have h7 : (((insideD t).take k).length : Int) * 1000000001 ≤ 7 * 1000000001 := by omega
      omega
    by_cases hlt : k < (insideD t).length
    · obtain ⟨pb, po, rfl, _, p0⟩ := N1.out k hlt
      have hin := Hin.out _ (List.getElem_mem hlt)
      obtain ⟨m, hxm⟩ := Int.eq_ofNat_of_zero_le hin.1
      have hml : m < zs.length := by omega
      rw [hxm] at p0
      have Hmem := Lib.hid (show (m : Int) ∈ insideD t from hxm ▸ List.getElem_mem hlt)
      have Hsn := Lib.hid (show sumZ (sizeS l) ((insideD t).take (k + 1)) = sumZ (sizeS l) ((insideD t).take k) + sizeS l (m : Int) by rw [List.take_succ_eq_append_getElem hlt, sumZ_append, hxm])
      obtain ⟨zb, zo, rfl, _, z0⟩ := S1.out m hml
      have hmb := Hbd.out (m : Int)
      have hmi : (m : Int) < (zs.length : Int) := by omega
      rcases Hz.out.2 m hml with hz1 | hz1
      · have Hm1 := Lib.hid (show zs[m]? = some (-1) by rw [List.getElem?_eq_getElem hml, hz1])
        rw [hz1] at z0
        clear hz1 hxm hin
        go_wp2_with fail
        go_ret
        exact ⟨-1, rfl, .inr ⟨rfl, m, Hmem.out, Hm1.out⟩, B1.out⟩
      · rw [hz1] at z0
        have hnn : ¬ sizeS l (m : Int) < 0 := by omega
        clear hz1 hxm hin
        go_wp2_with fail
        go_round
        case rel => exact ⟨k + 1, by go_num, by rw [Hsn.out], by omega⟩
        case measure => simp [intOf]; omega
    · obtain rfl : k = (insideD t).length := by omega
      rw [List.take_length] at *
      obtain ⟨sm, hsm⟩ : ∃ sm, sumZ (sizeS l) (insideD t) = sm := ⟨_, rfl⟩
      rw [hsm] at hs0 hs1' Hv
      rw [hsm]
      clear hsm hsb
      by_cases k4 : t.fKind = 4
      · have q4 : (t.fKind == 4) = true := beq_iff_eq.2 k4
        obtain ⟨hl0, hl1⟩ := Hlong.out k4
        have hm0 : 0 ≤ sm * t.fLong := Int.mul_nonneg hs0 hl0
        have hm1 : sm * t.fLong ≤ 7000000007 * 1000 := Int.mul_le_mul hs1' hl1 hl0 (by decide)
        rw [if_pos k4] at Hv
        clear k4
        go_wp2_with fail
        refine (sl1Least _ _ _).mono ?_
        rintro e w2 ⟨rfl, rfl⟩
        rw [← Hv.out]
        go_wp2_with fail
        go_ret
        exact ⟨_, rfl, .inl rfl, B1.out⟩
      · have q4 : (t.fKind == 4) = false := beq_eq_false_iff_ne.2 k4
        rw [if_neg k4, Int.mul_one] at Hv
        clear k4
        go_wp2_with fail
        refine (sl1Least _ _ _).mono ?_
        rintro e w2 ⟨rfl, rfl⟩
        rw [← Hv.out]
        go_wp2_with fail
        go_ret
        exact ⟨_, rfl, .inl rfl, B1.out⟩
end Go.Proofs.Ytjbnabjfeepbeaa
