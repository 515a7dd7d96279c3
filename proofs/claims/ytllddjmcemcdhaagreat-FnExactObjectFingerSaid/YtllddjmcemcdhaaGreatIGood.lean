
/-
  What is proved: what shaped types say of their parts; contracts of the program's comesBack and GoodTypes. No condition beside what each theorem states.
-/
import Derived.Test.YtllddjmcemcdhaaGreatISpread
import Derived.Test.YtllddjmcemcdhaaGreatIShaped
namespace Go.Proofs.YtllddjmcemcdhaaGreat
open Go.ChangeShapes Go.WideShapes Go.ChangeAt Go.RowKit

theorem kindZ_range {l : List TypeD} {x : Int} (h : kindZ l x ≠ 0) : 0 ≤ x ∧ x < (l.length : Int) := by
  unfold kindZ at h
  split at h
  · rename_i g; omega
  · exact absurd rfl h

theorem near.three {l : List TypeD} (h : near l) : 3 ≤ l.length := h.1.1
theorem near.most {l : List TypeD} (h : near l) : l.length ≤ 24 := h.2.1
theorem near.ok {l : List TypeD} (h : near l) (n : Nat) (hn : n < l.length) : (n < 3 ∧ baseLike n l[n]) ∨ (3 ≤ n ∧ typeOk l l[n]) := by
  by_cases h3 : n < 3
  · exact .inl ⟨h3, h.1.2 n hn h3⟩
  · exact .inr ⟨by omega, h.2.2.1 n hn (by omega) hn⟩
theorem near.six {l : List TypeD} (h : near l) : ∀ t ∈ l, t.fFields.length ≤ 6 := fun t ht => by
  obtain ⟨n, hn, rfl⟩ := List.getElem_of_mem ht
  rcases h.ok n hn with ⟨_, hb⟩ | ⟨_, ho⟩
  · have := hb.2.2.2.1; omega
  · rcases ho.2 with ⟨_, _, _, f⟩ | ⟨_, _, _, f⟩ | ⟨_, _, _, f⟩
    · omega
    · exact f.1
    · omega
theorem near.parts {l : List TypeD} (h : near l) : StepsIn l partsD := fun n hn x hx => by
  unfold partsD at hx
  rw [List.mem_append] at hx
  rcases h.ok n hn with ⟨_, _, _, hb, hf, _⟩ | ⟨_, ho⟩
  · rw [if_pos hb, List.eq_nil_of_length_eq_zero hf] at hx
    simp at hx
  · rcases ho.2 with ⟨_, _, hb, f⟩ | ⟨_, _, hb, f⟩ | ⟨_, _, hb, f⟩
    · rw [List.eq_nil_of_length_eq_zero f, if_neg (by omega)] at hx
      simp at hx
      rw [hx]; exact hb
    · rcases hx with hx | hx
      · split at hx
        · simp at hx
        · rw [List.mem_singleton.1 hx]
          rcases hb with hb | hb
          · contradiction
          · exact kindZ_range (by omega)
      · obtain ⟨fd, hfd, rfl⟩ := List.mem_map.1 hx
        obtain ⟨i, hi, rfl⟩ := List.getElem_of_mem hfd
        exact (f.2.1 i hi hi).2.2
    · rw [List.eq_nil_of_length_eq_zero f] at hx
      rcases hx with hx | hx
      · split at hx
        · simp at hx
        · rw [List.mem_singleton.1 hx]
          exact kindZ_range (by omega)
      · simp at hx
theorem near.inside {l : List TypeD} (h : near l) : StepsIn l insideD := fun n hn x hx => by
  unfold insideD at hx
  split at hx
  · simp at hx
  · exact h.parts n hn x hx

/-- A type that lies within itself. -/
def roundP (l : List TypeD) (n : Nat) : Prop := ∃ h : n < l.length, Reach l insideD (insideD l[n]) n
open Classical in
noncomputable def roundB (l : List TypeD) (n : Nat) : Bool := decide (roundP l n)
theorem roundB_true {l : List TypeD} {n : Nat} (h : roundP l n) : roundB l n = true := by unfold roundB; simpa using h
theorem roundB_false {l : List TypeD} {n : Nat} (h : ¬ roundP l n) : roundB l n = false := by unfold roundB; simpa using h
def good (l : List TypeD) : Prop := near l ∧ ∀ n, n < l.length → ¬ roundP l n
open Classical in
noncomputable def goodB (l : List TypeD) : Bool := decide (good l)
theorem goodB_true {l : List TypeD} (h : good l) : goodB l = true := by unfold goodB; simpa using h
theorem goodB_false {l : List TypeD} (h : ¬ good l) : goodB l = false := by unfold goodB; simpa using h

/-- The cells of a type, in any world that keeps them. -/
theorem type_cells {w w' : World} {a : Option Addr} {l : List TypeD} {n : Nat} (hr : Rows typeS Any w a l) (hn : n < l.length) (hb : Below w.heap.size w w') :
    ∃ b o a3 c3, a = some ⟨b, o, none⟩ ∧ b < w.heap.size ∧ w'.cell? ⟨b, o + n * 6, none⟩ = some (.int .i64 l[n].fKind) ∧ w'.cell? ⟨b, o + n * 6 + 1, none⟩ = some (.int .i64 l[n].fLong) ∧ w'.cell? ⟨b, o + n * 6 + 2, none⟩ = some (.int .i64 l[n].fBase) ∧
      w'.cell? ⟨b, o + n * 6 + 3, none⟩ = some (.slice a3 l[n].fFields.length c3) ∧ w'.cell? ⟨b, o + n * 6 + 4, none⟩ = some (.string l[n].fOwner) ∧ w'.cell? ⟨b, o + n * 6 + 5, none⟩ = some (.string l[n].fName) ∧ Rows fieldS Any w' a3 l[n].fFields ∧ l[n].fFields.length ≤ c3 := by
  obtain ⟨b, o, cs, rfl, _, hb1, hc1, hat⟩ := hr n hn
  obtain ⟨a3, c3, rfl, hrf, hfc⟩ := hat
  have e0 := (hb.cell (p := ⟨b, o + n * 6 + 0, none⟩) hb1).trans (hc1 0 (by decide))
  have e1 := (hb.cell (p := ⟨b, o + n * 6 + 1, none⟩) hb1).trans (hc1 1 (by decide))
  have e2 := (hb.cell (p := ⟨b, o + n * 6 + 2, none⟩) hb1).trans (hc1 2 (by decide))
  have e3 := (hb.cell (p := ⟨b, o + n * 6 + 3, none⟩) hb1).trans (hc1 3 (by decide))
  have e4 := (hb.cell (p := ⟨b, o + n * 6 + 4, none⟩) hb1).trans (hc1 4 (by decide))
  have e5 := (hb.cell (p := ⟨b, o + n * 6 + 5, none⟩) hb1).trans (hc1 5 (by decide))
  simp at e0 e1 e2 e3 e4 e5
  exact ⟨b, o, a3, c3, rfl, hb1, e0, e1, e2, e3, e4, e5, hrf.below hb, hfc⟩

theorem index_bools {R : List Bool} (h : R.length = 24) {n : Nat} {q : Bool} (hq : R[n]? = some q) (W : World) : (Instr.index 166 (.agg (boolA R)) (.int .i64 (n : Int))).run Tryz.prog W = .ok (.bool q) W := by
  have hn : n < R.length := (List.getElem?_eq_some_iff.1 hq).1
  have hu : Tryz.prog.underlying 166 = some (.array 24 4) := by kernel_rfl
  have hc := boolA_at hq
  have hlt : (0 : Int) ≤ n ∧ (n : Int) < 24 := by omega
  simp [Instr.index, run_underlying hu, asIntOf, hlt, go_sem]
  rw [if_pos (by omega), hc]
  rfl

set_option maxRecDepth 100000 in
set_option maxHeartbeats 4000000 in
theorem iComesBack (a : Option Addr) (c : Nat) (l : List TypeD) (n : Nat) (w : World) (hn : n < l.length) (hne : near l) (hr : Rows typeS Any w a l) :
    Calls Tryz.prog 76 #[.slice a l.length c, .int .i64 n] w fun e w' => e = .returned (.bool (roundB l n)) ∧ Below w.heap.size w w' := by
  have h24 := hne.most
  have Hne := Lib.hid hne
  have Hr := Lib.hid hr
  obtain ⟨b, o, a3, c3, rfl, hb1, e0, e1, e2, e3, e4, e5, hrf, _⟩ := type_cells hr hn (Below.refl _ _)
  have hft := hne.six l[n] (List.getElem_mem hn)
  have Hst := Lib.hid (hne.inside n hn)
  have Hil := Lib.hid (inside_len hft)
  have Hrf := Lib.hid hrf
  have Hv := Lib.hid (show ∀ q, (q = true ↔ Reach l insideD (insideD l[n]) n) → roundB l n = q from fun q hq => by
    cases q with
    | true => exact roundB_true ⟨hn, hq.1 rfl⟩
    | false => exact roundB_false (fun ⟨h, hr⟩ => by have := hq.2 hr; cases this))
  clear hr hrf hne
  generalize ht : l[n] = t at *
  go_enter Tryz.func76, Tryz.ntmps76
  go_wp2_with fail
  refine (iInsideOf t a3 c3 _ (by omega) Hrf.out).mono ?_
  rintro e w1 ⟨v1, rfl, hown1, hb1'⟩
  obtain ⟨a1, c1, rfl, _, hn1⟩ := hown1.nums
  have N1 := Lib.hid hn1
  have B1 := Lib.hid hb1'
  clear hown1 hn1 hb1'
  go_wp2_with fail
  refine (iSpreadIn _ c l a1 c1 (insideD t) w1 h24 (Hr.out.below B1.out) N1.out (by have := Hil.out; omega) Hst.out Hne.out.six Hne.out.inside).mono ?_
  rintro e w2 ⟨R, rfl, hR, hre, hb2⟩
  have B2 := Lib.hid (B1.out.trans (hb2.mono B1.out.size))
  have hR24 : n < R.length := by omega
  have x1 := boolA_at (List.getElem?_eq_getElem hR24)
  have Hq := Lib.hid (Hv.out R[n] (by rw [← hre n, List.getElem?_eq_getElem hR24]; simp))
  have hix := index_bools hR (List.getElem?_eq_getElem hR24)
  clear hre hb2
  generalize R[n] = q at *
  go_wp2_with fail
  go_ret
  exact ⟨by rw [Hq.out]; rfl, B2.out⟩

set_option maxRecDepth 100000 in
set_option maxHeartbeats 4000000 in
theorem iGoodTypes (a : Option Addr) (c : Nat) (l : List TypeD) (w : World) (hl : l.length ≤ 1048576) (hc : l.length ≤ c) (hc2 : c ≤ maxLen) (hm : ∀ t ∈ l, t.mod) (hr : Rows typeS Any w a l) :
    Calls Tryz.prog 52 #[.slice a l.length c] w fun e w' => e = .returned (.bool (goodB l)) ∧ Below w.heap.size w w' := by
  have Hr := Lib.hid hr
  have Hm := Lib.hid hm
  clear hr hm
  go_enter Tryz.func52, Tryz.ntmps52
  go_wp2_with fail
  refine (iAreShaped a c l w hl hc hc2 Hm.out Hr.out).mono ?_
  rintro e w1 ⟨rfl, hb1⟩
  have B1 := Lib.hid hb1
  have R1 := Lib.hid (Hr.out.below hb1)
  clear hb1
  by_cases hne : near l
  · have hq := nearB_true hne
    have Hne := Lib.hid hne
    clear hne
    generalize nearB l = q at *
    subst hq
    go_wp2_with fail
    go_loopw [9] (fun i wr => ∃ k : Nat, i = .int .i64 k ∧ k ≤ l.length ∧ (∀ j, j < k → ¬ roundP l j) ∧ Below w1.heap.size w1 wr) (fun i _ => l.length - (intOf i).toNat)
    case atStart => exact ⟨0, rfl, by omega, fun j h => absurd h (by omega), Below.refl _ _⟩
    case round =>
      obtain ⟨k, rfl, hk, hno, hbel⟩ := hrel
      have Hno := Lib.hid hno
      have Hbel := Lib.hid hbel
      clear hno hbel
      by_cases hlt : k < l.length
      · go_wp2_with fail
        refine (iComesBack a c l k wr hlt Hne.out (R1.out.below Hbel.out)).mono ?_
        rintro e w2 ⟨rfl, hb2⟩
        have B2 := Lib.hid (Hbel.out.trans (hb2.mono Hbel.out.size))
        clear hb2
        by_cases hro : roundP l k
        · have hq := roundB_true hro
          have Hv := Lib.hid (goodB_false (l := l) (fun h => h.2 k hlt hro))
          clear hro
          generalize roundB l k = q at *
          subst hq
          go_wp2_with fail
          go_ret
          exact ⟨by rw [Hv.out]; rfl, B1.out.trans (B2.out.mono B1.out.size)⟩
        · have hq := roundB_false hro
          have Hno' := Lib.hid (show ∀ j, j < k + 1 → ¬ roundP l j from fun j hj => by
            by_cases e : j = k
            · subst e; exact hro
            · exact Hno.out j (by omega))
          clear hro
          generalize roundB l k = q at *
          subst hq
          go_wp2_with fail
          exact ⟨⟨k + 1, by congr 1, by omega, Hno'.out, B2.out⟩, by simp [intOf]; omega⟩
      · have Hv := Lib.hid (goodB_true ⟨Hne.out, fun n hn => Hno.out n (by omega)⟩)
        go_wp2_with fail
        go_ret
        exact ⟨by rw [Hv.out]; rfl, B1.out.trans (Hbel.out.mono B1.out.size)⟩
  · have hq := nearB_false hne
    have Hv := Lib.hid (goodB_false (l := l) (fun h => hne h.1))
    clear hne
    generalize nearB l = q at *
    subst hq
    go_wp2_with fail
    go_ret
    exact ⟨by rw [Hv.out]; rfl, B1.out⟩
end Go.Proofs.YtllddjmcemcdhaaGreat
