
/-
  What is proved: a contract of the model's l3One, where each size is known or -1; a contract of the model's l3Size; contracts of SizeOf, the program's and the model's. No condition beside what each theorem states.
-/
import Derived.Test.YtlfigpdjhljdnaaSize
import Derived.Test.YtlfigpdjhljdnaaSFrom
import Derived.Laws.MakeOwn
import Derived.Test.YtlfigpdjhljdnaaAt
namespace Go.Proofs.Ytlfigpdjhljdnaa
open Go.ChangeShapes Go.WideShapes Go.ChangeAt Go.RowKit

theorem sl1Least (a b : Int) (w : World) : Calls Try.prog 94 #[.int .i64 a, .int .i64 b] w fun e w' => e = .returned (.int .i64 (min a b)) ∧ w = w' := by
  by_cases h : a < b
  · have Hv := Lib.hid (show min a b = a from Int.min_eq_left (by omega))
    go_enter Try.func94, Try.ntmps94
    go_wp2_with fail
    go_ret
    exact ⟨by rw [Hv.out]; rfl, rfl⟩
  · have Hv := Lib.hid (show min a b = b from Int.min_eq_right (by omega))
    go_enter Try.func94, Try.ntmps94
    go_wp2_with fail
    go_ret
    exact ⟨by rw [Hv.out]; rfl, rfl⟩

/-- Each size is known or -1. -/
def halfKnown (l : List TypeD) (zs : List Int) : Prop := zs.length = l.length ∧ ∀ j (h : j < zs.length), zs[j] = -1 ∨ zs[j] = sizeS l (j : Int)
def OneIs (l : List TypeD) (zs : List Int) (t : TypeD) (r : Int) : Prop := r = oneS (sizeS l) t ∨ (r = -1 ∧ ∃ m : Nat, (m : Int) ∈ insideD t ∧ zs[m]? = some (-1))

set_option maxRecDepth 100000 in
set_option maxHeartbeats 4000000 in
theorem sl3One (l : List TypeD) (hg : good l) (n : Nat) (hn : n < l.length) (a3 : Option Addr) (c3 : Nat) (za : Option Addr) (zc : Nat) (zs : List Int) (w : World) (hz : halfKnown l zs) (hr : Rows fieldS Any w a3 l[n].fFields) (hs : Nums w za zs) :
    Calls Try.prog 131 #[.agg #[.int .i64 l[n].fKind, .int .i64 l[n].fLong, .int .i64 l[n].fBase, .slice a3 l[n].fFields.length c3, .string l[n].fOwner, .string l[n].fName], .slice za zs.length zc] w fun e w' => ∃ r, e = .returned (.int .i64 r) ∧ OneIs l zs l[n] r ∧ Below w.heap.size w w' := by
  have hft := hg.1.six l[n] (List.getElem_mem hn)
  have hpl := inside_len hft
  have hmp := hg.1.mParts n hn
  have Hin := Lib.hid (hg.1.inside n hn)
  have Hbd := Lib.hid (fun x => sizeS_bounds hg.1 x)
  have Hlong := Lib.hid (show l[n].fKind = 4 → 0 ≤ l[n].fLong ∧ l[n].fLong ≤ 1000 from fun h4 => by
    rcases hg.1.ok n hn with ⟨h3, hb⟩ | ⟨_, ho⟩
    · have := hb.2.1; omega
    · rcases ho.2 with ⟨_, q, _⟩ | ⟨_, q, _⟩ | ⟨_, q, _⟩ <;> omega)
  have Hz := Lib.hid hz
  have Hs := Lib.hid hs
  have Hr := Lib.hid hr
  have hzl := hz.1
  have h24 := hg.1.most
  clear hz hs hr
  generalize l[n] = t at *
  have Hmp := Lib.hid hmp
  have Hone := Lib.hid (show oneS (sizeS l) t = _ from rfl)
  clear hmp
  by_cases k1 : t.fKind = 1
  · have Hv := Lib.hid (show oneS (sizeS l) t = 4 by unfold oneS; rw [if_pos k1])
    have q1 : (t.fKind == 1) = true := beq_iff_eq.2 k1
    clear k1
    go_enter Try.func131, Try.ntmps131
    go_wp2_with fail
    go_ret
    exact ⟨4, rfl, .inl Hv.out.symm, (Below.refl _ _).alloc (Nat.le_refl _) _⟩
  have q1 : (t.fKind == 1) = false := beq_eq_false_iff_ne.2 k1
  by_cases k2 : t.fKind = 2
  · have Hv := Lib.hid (show oneS (sizeS l) t = 1 by unfold oneS; rw [if_neg k1, if_pos (.inl k2)])
    have q2 : (t.fKind == 2) = true := beq_iff_eq.2 k2
    clear k1 k2
    go_enter Try.func131, Try.ntmps131
    go_wp2_with fail
    go_ret
    exact ⟨1, rfl, .inl Hv.out.symm, (Below.refl _ _).alloc (Nat.le_refl _) _⟩
  have q2 : (t.fKind == 2) = false := beq_eq_false_iff_ne.2 k2
  by_cases k3 : t.fKind = 3
  · have Hv := Lib.hid (show oneS (sizeS l) t = 1 by unfold oneS; rw [if_neg k1, if_pos (.inr k3)])
    have q3 : (t.fKind == 3) = true := beq_iff_eq.2 k3
    clear k1 k2 k3
    go_enter Try.func131, Try.ntmps131
    go_wp2_with fail
    go_ret
    exact ⟨1, rfl, .inl Hv.out.symm, (Below.refl _ _).alloc (Nat.le_refl _) _⟩
  have q3 : (t.fKind == 3) = false := beq_eq_false_iff_ne.2 k3
  have hk23 : ¬ (t.fKind = 2 ∨ t.fKind = 3) := fun h => h.elim k2 k3
  by_cases k6 : t.fKind = 6
  · have Hv := Lib.hid (show oneS (sizeS l) t = 8 by unfold oneS; rw [if_neg k1, if_neg hk23, if_pos k6])
    have q6 : (t.fKind == 6) = true := beq_iff_eq.2 k6
    clear k1 k2 k3 k6 hk23
    go_enter Try.func131, Try.ntmps131
    go_wp2_with fail
    go_ret
    exact ⟨8, rfl, .inl Hv.out.symm, (Below.refl _ _).alloc (Nat.le_refl _) _⟩
  have q6 : (t.fKind == 6) = false := beq_eq_false_iff_ne.2 k6
  have Hv := Lib.hid (show oneS (sizeS l) t = min 1000000001 (sumZ (sizeS l) (insideD t) * (if t.fKind = 4 then t.fLong else 1)) by unfold oneS; rw [if_neg k1, if_neg hk23, if_neg k6])
  clear k1 k2 k3 k6 hk23
  have B0 := Lib.hid ((Below.refl w.heap.size w).alloc (Nat.le_refl _) (.cells #[.int .i64 t.fKind, .int .i64 t.fLong, .int .i64 t.fBase, .slice a3 t.fFields.length c3, .string t.fOwner, .string t.fName] 34))
  have X0 := Lib.hid (Box.new w 34 #[.int .i64 t.fKind, .int .i64 t.fLong, .int .i64 t.fBase, .slice a3 t.fFields.length c3, .string t.fOwner, .string t.fName])
  go_enter Try.func131, Try.ntmps131
  go_wp2_with fail
  refine (sl3Parts t a3 c3 _ (by omega) (Hr.out.below B0.out)).mono ?_
  rintro e w1 ⟨v1, rfl, hown1, hb1⟩
  rw [Hmp.out] at hown1
  obtain ⟨pa, pc, rfl, _, hpn⟩ := hown1.nums
  have N1 := Lib.hid hpn
  have B1 := Lib.hid (B0.out.trans (hb1.mono B0.out.size))
  have X1 := X0.out.below hb1 (by simp)
  have f0 := X1.cell 0
  have f1 := X1.cell 1
  simp at f0 f1
  have S1 := Lib.hid (Hs.out.below B1.out)
  clear hown1 hpn hb1 X1
  go_wp2_with fail
  go_loop [20, 5] (fun i sv => ∃ k : Nat, i = .int .i64 k ∧ sv = .int .i64 (sumZ (sizeS l) ((insideD t).take k)) ∧ k ≤ (insideD t).length) (fun i _ => (insideD t).length - (intOf i).toNat)
  case atStart => exact ⟨0, rfl, rfl, by omega⟩
  case round =>
    obtain ⟨k, rfl, rfl, hk⟩ := hrel
    have hsb := sumZ_bounds Hbd.out ((insideD t).take k)
    have htk : ((insideD t).take k).length ≤ 7 := by rw [List.length_take]; omega
    have hs0 := hsb.1
    have hs1' : sumZ (sizeS l) ((insideD t).take k) ≤ 7000000007 := by
      have h7 : (((insideD t).take k).length : Int) * 1000000001 ≤ 7 * 1000000001 := by omega
      omega
    by_cases hlt : k < (insideD t).length
    · obtain ⟨pb, po, rfl, _, p0⟩ := N1.out k hlt
      have hin := Hin.out _ (List.getElem_mem hlt)
      obtain ⟨m, hxm⟩ := Int.eq_ofNat_of_zero_le hin.1
      have hml : m < zs.length := by omega
      rw [hxm] at p0
      have Hmem := Lib.hid (show (m : Int) ∈ insideD t from hxm ▸ List.getElem_mem hlt)
      have Hsn := Lib.hid (show sumZ (sizeS l) ((insideD t).take (k + 1)) = sumZ (sizeS l) ((insideD t).take k) + sizeS l (m : Int) by rw [List.take_succ_eq_append_getElem hlt, sumZ_append, hxm])
      obtain ⟨zb, zo, rfl, _, z0⟩ := S1.out m hml
      have hmb := Hbd.out (m : Int)
      have hmi : (m : Int) < (zs.length : Int) := by omega
      rcases Hz.out.2 m hml with hz1 | hz1
      · have Hm1 := Lib.hid (show zs[m]? = some (-1) by rw [List.getElem?_eq_getElem hml, hz1])
        rw [hz1] at z0
        clear hz1 hxm hin
        go_wp2_with fail
        go_ret
        exact ⟨-1, rfl, .inr ⟨rfl, m, Hmem.out, Hm1.out⟩, B1.out⟩
      · rw [hz1] at z0
        have hnn : ¬ sizeS l (m : Int) < 0 := by omega
        clear hz1 hxm hin
        go_wp2_with fail
        go_round
        case rel => exact ⟨k + 1, by go_num, by rw [Hsn.out], by omega⟩
        case measure => simp [intOf]; omega
    · obtain rfl : k = (insideD t).length := by omega
      rw [List.take_length] at *
      obtain ⟨sm, hsm⟩ : ∃ sm, sumZ (sizeS l) (insideD t) = sm := ⟨_, rfl⟩
      rw [hsm] at hs0 hs1' Hv
      rw [hsm]
      clear hsm hsb
      by_cases k4 : t.fKind = 4
      · have q4 : (t.fKind == 4) = true := beq_iff_eq.2 k4
        obtain ⟨hl0, hl1⟩ := Hlong.out k4
        have hm0 : 0 ≤ sm * t.fLong := Int.mul_nonneg hs0 hl0
        have hm1 : sm * t.fLong ≤ 7000000007 * 1000 := Int.mul_le_mul hs1' hl1 hl0 (by decide)
        rw [if_pos k4] at Hv
        clear k4
        go_wp2_with fail
        refine (sl1Least _ _ _).mono ?_
        rintro e w2 ⟨rfl, rfl⟩
        rw [← Hv.out]
        go_wp2_with fail
        go_ret
        exact ⟨_, rfl, .inl rfl, B1.out⟩
      · have q4 : (t.fKind == 4) = false := beq_eq_false_iff_ne.2 k4
        rw [if_neg k4, Int.mul_one] at Hv
        clear k4
        go_wp2_with fail
        refine (sl1Least _ _ _).mono ?_
        rintro e w2 ⟨rfl, rfl⟩
        rw [← Hv.out]
        go_wp2_with fail
        go_ret
        exact ⟨_, rfl, .inl rfl, B1.out⟩
end Go.Proofs.Ytlfigpdjhljdnaa

namespace Go.Proofs.Ytlfigpdjhljdnaa
open Go.ChangeShapes Go.WideShapes Go.ChangeAt Go.RowKit

def intsA (zs : List Int) : Array Value := (zs.map (Value.int .i64)).toArray
theorem intsA_at {zs : List Int} {k : Nat} (h : k < zs.length) : (intsA zs)[k]? = some (.int .i64 zs[k]) := by simp [intsA, h]
theorem intsA_set (zs : List Int) (k : Nat) (z : Int) : (intsA zs).setIfInBounds k (.int .i64 z) = intsA (zs.set k z) := by simp [intsA, List.map_set]
theorem Box.nums {w : World} {g : Nat} {t : TypeId} {zs : List Int} (h : Box w g t (intsA zs)) : Nums w (Option.some ⟨g, 0, none⟩) zs := fun i hi => ⟨g, 0, rfl, h.lt, by rw [Nat.zero_add, h.cell, intsA_at hi]⟩
theorem makeInts (n : Nat) (W : World) (hn : n ≤ 1048576) : (Instr.makeSlice 63 (.int .i64 (n : Int)) (.int .i64 (n : Int))).run Try.prog W = .ok (.slice (some ⟨W.heap.size, 0, none⟩) n n) (W.alloc (.cells (intsA (List.replicate n 0)) 3)) := by
  obtain ⟨i0, hi0, hz0, hz1, hz2⟩ := info_parts infoInt
  have := run_make (P := Try.prog) W 63 3 i0 _ Try.underlying63 hi0 hz0 .i64 .i64 (n : Int) (n : Int) (by omega) (by omega) (by rw [hz2]; omega) (by omega)
  rw [this, hz1, Nat.mul_one, show (Value.int .i64 0).cells = #[.int .i64 0] from rfl]
  have : madeCells #[.int .i64 0] n = intsA (List.replicate n 0) := by
    apply Array.ext
    · simp [size_madeCells, intsA]
    · intro i h1 h2
      simp [madeCells, intsA, Nat.mod_one]
  rw [← this]
  simp

theorem Rk.more {l : List TypeD} : ∀ {f n : Nat}, Rk l f n → Rk l (f + 1) n
  | 0, _, h => by cases h
  | f + 1, n, h => by
    obtain ⟨hn, hp⟩ := h
    exact ⟨hn, fun x hx => by obtain ⟨m, e, hm⟩ := hp x hx; exact ⟨m, e, hm.more⟩⟩
def State (l : List TypeD) (r k : Nat) (zs : List Int) : Prop := halfKnown l zs ∧ (∀ j, Rk l r j → zs[j]? = some (sizeS l (j : Int))) ∧ ∀ j, j < k → Rk l (r + 1) j → zs[j]? = some (sizeS l (j : Int))
theorem State.put {l : List TypeD} (hg : good l) {r k : Nat} {zs : List Int} (h : State l r k zs) (hk : k < l.length) {z : Int} (hz : OneIs l zs l[k] z) : State l r (k + 1) (zs.set k z) := by
  obtain ⟨⟨h1, h2⟩, h3, h4⟩ := h
  have hkz : k < zs.length := by omega
  have hS : z = sizeS l (k : Int) ∨ (z = -1 ∧ ∃ m : Nat, (m : Int) ∈ insideD l[k] ∧ zs[m]? = some (-1)) := by
    rcases hz with h | h
    · exact .inl (by rw [sizeS_eq hg hk]; exact h)
    · exact .inr h
  have hfull : Rk l (r + 1) k → z = sizeS l (k : Int) := fun hr => by
    rcases hS with h | ⟨_, m, hm, hzm⟩
    · exact h
    · obtain ⟨_, hp⟩ := hr
      obtain ⟨m', e, hm'⟩ := hp _ hm
      obtain rfl : m = m' := by omega
      rw [h3 m hm'] at hzm
      injection hzm with hzm
      have := (sizeS_bounds hg.1 (m : Int)).1
      omega
  refine ⟨⟨by rw [List.length_set, h1], fun j hj => ?_⟩, fun j hj => ?_, fun j hjk hj => ?_⟩
  · rw [List.length_set] at hj
    rw [List.getElem_set]
    split
    · rename_i e
      subst e
      rcases hS with h | ⟨h, _⟩
      · exact .inr h
      · exact .inl h
    · exact h2 j hj
  · rw [List.getElem?_set]
    split
    · rename_i e
      subst e
      rw [hfull hj.more]
    · exact h3 j hj
  · rw [List.getElem?_set]
    split
    · rename_i e
      subst e
      rw [hfull hj]
    · exact h4 j (by omega) hj
theorem State.next {l : List TypeD} {r : Nat} {zs : List Int} (h : State l r l.length zs) : State l (r + 1) 0 zs := ⟨h.1, fun j hj => h.2.2 j hj.lt hj, fun _ h _ => absurd h (by omega)⟩

set_option maxRecDepth 100000 in
set_option maxHeartbeats 4000000 in
theorem sl3Size (l : List TypeD) (hg : good l) (a : Option Addr) (c n : Nat) (hn : n < l.length) (w : World) (hr : Rows typeS Any w a l) :
    Calls Try.prog 93 #[.slice a l.length c, .int .i64 n] w fun e w' => e = .returned (.int .i64 (sizeS l n)) ∧ Below w.heap.size w w' := by
  have h24 := hg.1.most
  have km := fun W => makeInts l.length W (by omega)
  have Hr := Lib.hid hr
  have Hg := Lib.hid hg
  clear hr
  go_enter Try.func93, Try.ntmps93
  go_wp2_with fail
  go_loopw [14] (fun i wr => ∃ (k : Nat) (zs : List Int), i = .int .i64 k ∧ k ≤ l.length ∧ zs.length = l.length ∧ (∀ j (h : j < zs.length), j < k → zs[j] = -1) ∧ Box wr w.heap.size 3 (intsA zs) ∧ Below w.heap.size w wr) (fun i _ => l.length - (intOf i).toNat)
  case atStart => exact ⟨0, List.replicate l.length 0, rfl, by omega, by simp, fun _ _ h => absurd h (by omega), Box.new w _ _, (Below.refl _ _).alloc (Nat.le_refl _) _⟩
  case round =>
    clear km
    obtain ⟨k, zs, rfl, hk, hzl, hz, hx, hbel⟩ := hrel
    have Hx := Lib.hid hx
    have Hbel := Lib.hid hbel
    have hsz := hbel.size
    by_cases hlt : k < l.length
    · have hkz : k < zs.length := by omega
      have x0 := hx.cell k
      rw [intsA_at hkz] at x0
      have xf := hx.free k
      have Hz2 := Lib.hid (show ∀ j (h : j < (zs.set k (-1)).length), j < k + 1 → (zs.set k (-1))[j] = -1 from fun j hj hjk => by
        rw [List.getElem_set]
        split
        · rfl
        · exact hz j (by rw [List.length_set] at hj; exact hj) (by omega))
      have Hx2 := Lib.hid (show Box _ _ _ (intsA (zs.set k (-1))) from intsA_set zs k (-1) ▸ hx.set k (.int .i64 (-1)))
      have Hb2 := Lib.hid (hbel.setCell (p := ⟨w.heap.size, k, none⟩) (Nat.le_refl _) (.int .i64 (-1)))
      clear hz hx hbel
      generalize zs[k] = z0 at *
      go_wp2_with fail
      exact ⟨⟨k + 1, zs.set k (-1), by congr 1, by omega, by rw [List.length_set, hzl], Hz2.out, Hx2.out, Hb2.out⟩, by simp [intOf]; omega⟩
    · have Hst := Lib.hid (show State l 0 0 zs from ⟨⟨hzl, fun j hj => .inl (hz j hj (by omega))⟩, fun j h => (show False from h).elim, fun _ h _ => absurd h (by omega)⟩)
      clear hz hx hbel
      go_wp2_with fail
      go_loopw [23] (fun i wq => ∃ (r : Nat) (zs : List Int), i = .int .i64 r ∧ r ≤ l.length ∧ State l r 0 zs ∧ Box wq w.heap.size 3 (intsA zs) ∧ Below w.heap.size w wq) (fun i _ => l.length - (intOf i).toNat)
      case atStart => exact ⟨0, zs, rfl, by omega, Hst.out, Hx.out, Hbel.out⟩
      case round =>
        obtain ⟨r, zs, rfl, hrl, hst, hx, hbel⟩ := hrel
        have Hst := Lib.hid hst
        have Hx := Lib.hid hx
        have Hbel := Lib.hid hbel
        obtain ⟨wo, hwo⟩ : ∃ x, x = wr := ⟨_, rfl⟩
        subst hwo
        clear hst hbel
        by_cases hrt : r < l.length
        · clear hx
          go_wp2_with fail
          go_loopw [27] (fun i wq => ∃ (k : Nat) (zs : List Int), i = .int .i64 k ∧ k ≤ l.length ∧ State l r k zs ∧ Box wq w.heap.size 3 (intsA zs) ∧ Below w.heap.size w wq) (fun i _ => l.length - (intOf i).toNat)
          case atStart => exact ⟨0, zs, rfl, by omega, Hst.out, Hx.out, Hbel.out⟩
          case round =>
            obtain ⟨k, zs, rfl, hk, hst, hx, hbel⟩ := hrel
            have Hst := Lib.hid hst
            have Hx := Lib.hid hx
            have Hbel := Lib.hid hbel
            have hzl := hst.1.1
            by_cases hlt : k < l.length
            · obtain ⟨b, o, a3, c3, rfl, hb1, e0, e1, e2, e3, e4, e5, hrf, _⟩ := type_cells Hr.out hlt hbel
              have hsz := hbel.size
              have BT := Lib.hid (hbel.alloc hbel.size (.cells #[.int .i64 l[k].fKind, .int .i64 l[k].fLong, .int .i64 l[k].fBase, .slice a3 l[k].fFields.length c3, .string l[k].fOwner, .string l[k].fName] 34))
              have BA := (Below.refl wr.heap.size wr).alloc (Nat.le_refl _) (.cells #[.int .i64 l[k].fKind, .int .i64 l[k].fLong, .int .i64 l[k].fBase, .slice a3 l[k].fFields.length c3, .string l[k].fOwner, .string l[k].fName] 34)
              have Hone := Lib.hid (fun zc => sl3One l Hg.out k hlt a3 c3 (some ⟨w.heap.size, 0, none⟩) zc zs _ hst.1 (hrf.below BA) ((hx.alloc (.cells #[.int .i64 l[k].fKind, .int .i64 l[k].fLong, .int .i64 l[k].fBase, .slice a3 l[k].fFields.length c3, .string l[k].fOwner, .string l[k].fName] 34)).nums))
              have Hput := Lib.hid (fun z => State.put (z := z) Hg.out hst hlt)
              have Hxa := Lib.hid (hx.alloc (.cells #[.int .i64 l[k].fKind, .int .i64 l[k].fLong, .int .i64 l[k].fBase, .slice a3 l[k].fFields.length c3, .string l[k].fOwner, .string l[k].fName] 34))
              have hkz : k < zs.length := by omega
              rw [hzl] at Hone
              clear hst hx hbel hrf BA
              go_wp2_with fail
              refine (Hone.out _).mono ?_
              rintro e w3 ⟨z, rfl, hz, hb3⟩
              have Hx3 := Hxa.out.below hb3 Hxa.out.lt
              have x0 := Hx3.cell k
              rw [intsA_at hkz] at x0
              have xf := Hx3.free k
              have Hs4 := Lib.hid (Hput.out z hz)
              have Hx4 := Lib.hid (show Box _ _ _ (intsA (zs.set k z)) from intsA_set zs k z ▸ Hx3.set k (.int .i64 z))
              have Hb4 := Lib.hid ((BT.out.trans (hb3.mono BT.out.size)).setCell (p := ⟨w.heap.size, k, none⟩) (Nat.le_refl _) (.int .i64 z))
              clear hz hb3 Hx3
              generalize zs[k] = z0 at *
              go_wp2_with fail
              exact ⟨⟨k + 1, zs.set k z, by congr 1, by omega, Hs4.out, Hx4.out, Hb4.out⟩, by simp [intOf]; omega⟩
            · have Hs4 := Lib.hid (State.next (show State l r l.length zs by rw [← show k = l.length by omega]; exact Hst.out))
              clear hst hx hbel
              go_wp2_with fail
              exact ⟨⟨r + 1, zs, by congr 1, by omega, Hs4.out, Hx.out, Hbel.out⟩, by simp [intOf]; omega⟩
        · have hnz : n < zs.length := by have := Hst.out.1.1; omega
          have x0 := hx.cell n
          have hget := Hst.out.2.1 n (by rw [show r = l.length by omega]; exact rk_all Hg.out hn)
          rw [intsA_at hnz, (List.getElem?_eq_some_iff.1 hget).2] at x0
          have hzl := Hst.out.1.1
          clear hx hget
          go_wp2_with fail
          go_ret
          exact ⟨rfl, Hbel.out⟩
end Go.Proofs.Ytlfigpdjhljdnaa

namespace Go.Proofs.Ytlfigpdjhljdnaa
open Go.ChangeShapes Go.WideShapes Go.ChangeAt Go.RowKit Go.Maps Go.WideMaps

def sizeP (l : List TypeD) (x : Int) : Prop := atP l x ∧ sizeS l x ≤ 1000000000
open Classical in
noncomputable def sizeB (l : List TypeD) (x : Int) : Bool := decide (sizeP l x)
open Classical in
noncomputable def sizeA (l : List TypeD) (x : Int) : Int := if sizeP l x then sizeS l x else 0
theorem size_in {l : List TypeD} {x : Int} (h : sizeP l x) : sizeB l x = true ∧ sizeA l x = sizeS l x := ⟨by unfold sizeB; simpa using h, if_pos h⟩
theorem size_out {l : List TypeD} {x : Int} (h : ¬ sizeP l x) : sizeB l x = false ∧ sizeA l x = 0 := ⟨by unfold sizeB; simpa using h, if_neg h⟩

set_option maxHeartbeats 4000000 in
theorem iSizeOf (a : Option Addr) (c : Nat) (l : List TypeD) (x : Int) (w : World) (hl : l.length ≤ 1048576) (hc : l.length ≤ c) (hc2 : c ≤ maxLen) (hm : ∀ t ∈ l, t.mod) (hr : Rows typeS Any w a l) :
    Calls Try.prog 21 #[.slice a l.length c, .int .i64 x] w fun e w' => e = .returned (.tuple #[.int .i64 (sizeA l x), .bool (sizeB l x)]) ∧ Below w.heap.size w w' := by
  have Hr := Lib.hid hr
  have Hm := Lib.hid hm
  have hmm := @run_makeMap Try.prog
  clear hr hm
  go_enter Try.func21, Try.ntmps21
  go_wp2_with fail
  refine (iGoodTypes a c l w hl hc hc2 Hm.out Hr.out).mono ?_
  rintro e w1 ⟨rfl, hb1⟩
  have B1 := Lib.hid hb1
  clear hb1
  by_cases hg : good l
  · have hq := goodB_true hg
    have Hg := Lib.hid hg
    clear hg
    generalize goodB l = q at *
    subst hq
    go_wp2_with fail
    refine (iTypeNumber a c l.length x _).mono ?_
    rintro e w2 ⟨rfl, rfl⟩
    by_cases hx : 0 ≤ x ∧ x < (l.length : Int)
    · obtain ⟨n, rfl⟩ := Int.eq_ofNat_of_zero_le hx.1
      have hn : n < l.length := by omega
      have HA := Lib.hid (show atP l (n : Int) from ⟨Hg.out, hx⟩)
      rw [decide_eq_true hx]
      clear hx
      go_wp2_with fail
      have hr1 := Hr.out.below B1.out
      have hr2 : Rows typeS (fun k => k ≠ w1.heap.size) (w1.alloc (.map #[] 0)) a l := (Rows.mono (Q' := fun k => k ≠ w1.heap.size) hr1 (fun k _ hk => by omega)).keep (fun k _ hk => Below.heap_alloc w1 _ k hk) (by simp)
      refine (iSizeWithin l Hg.out a c w1.heap.size l.length n [] _ (rk_all Hg.out hn) ⟨List.nodup_nil, fun _ h => by cases h⟩ (KMap.made (sizeS l) w1) hr2).mono ?_
      rintro e w3 ⟨rfl, _, ho3⟩
      have B3 := Lib.hid (B1.out.trans ((((Below.refl w1.heap.size w1).alloc (Nat.le_refl _) (.map #[] 0)).trans (ho3.below (Nat.le_refl _) (by simp))).mono B1.out.size))
      clear ho3 hr1 hr2
      by_cases hs : sizeS l (n : Int) ≤ 1000000000
      · have Hv := Lib.hid (size_in ⟨HA.out, hs⟩)
        obtain ⟨S, hS⟩ : ∃ S, sizeS l (n : Int) = S := ⟨_, rfl⟩
        have HS := Lib.hid hS
        rw [hS] at hs
        rw [hS]
        clear hS
        go_wp2_with fail
        go_ret2
        exact ⟨by rw [Hv.out.1, Hv.out.2, HS.out]; rfl, B3.out⟩
      · have Hv := Lib.hid (size_out (l := l) (x := (n : Int)) (fun h => hs h.2))
        obtain ⟨S, hS⟩ : ∃ S, sizeS l (n : Int) = S := ⟨_, rfl⟩
        rw [hS] at hs
        rw [hS]
        clear hS
        go_wp2_with fail
        go_ret2
        exact ⟨by rw [Hv.out.1, Hv.out.2]; rfl, B3.out⟩
    · have Hv := Lib.hid (size_out (l := l) (x := x) (fun h => hx h.1.2))
      rw [decide_eq_false hx]
      go_wp2_with fail
      go_ret2
      exact ⟨by rw [Hv.out.1, Hv.out.2]; rfl, B1.out⟩
  · have hq := goodB_false hg
    have Hv := Lib.hid (size_out (l := l) (x := x) (fun h => hg h.1.1))
    clear hg
    generalize goodB l = q at *
    subst hq
    go_wp2_with fail
    go_ret2
    exact ⟨by rw [Hv.out.1, Hv.out.2]; rfl, B1.out⟩
end Go.Proofs.Ytlfigpdjhljdnaa
