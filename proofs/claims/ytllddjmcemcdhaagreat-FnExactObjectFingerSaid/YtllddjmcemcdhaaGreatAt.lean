
/-
  What is proved: contracts of the model's l3Round and l3Good; a contract of the model's l3At. No condition beside what each theorem states.
-/
import Derived.Test.YtllddjmcemcdhaaGreatSFrom
import Derived.Test.YtllddjmcemcdhaaGreatSNearly
namespace Go.Proofs.YtllddjmcemcdhaaGreat
open Go.ChangeShapes Go.WideShapes Go.ChangeAt Go.RowKit

set_option maxRecDepth 100000 in
set_option maxHeartbeats 4000000 in
theorem sl3Round (a : Option Addr) (c : Nat) (l : List TypeD) (n : Nat) (w : World) (hn : n < l.length) (hne : near l) (hr : Rows typeS Any w a l) :
    Calls Tryz.prog 67 #[.slice a l.length c, .int .i64 n] w fun e w' => e = .returned (.bool (roundB l n)) ∧ Below w.heap.size w w' := by
  have h24 := hne.most
  have Hne := Lib.hid hne
  have Hr := Lib.hid hr
  obtain ⟨b, o, a3, c3, rfl, hb1, e0, e1, e2, e3, e4, e5, hrf, _⟩ := type_cells hr hn (Below.refl _ _)
  have hft := hne.six l[n] (List.getElem_mem hn)
  have Hst := Lib.hid (hne.inside n hn)
  have Hil := Lib.hid (inside_len hft)
  have Hmp := Lib.hid (hne.mParts n hn)
  have Hrf := Lib.hid hrf
  have Hv := Lib.hid (show ∀ m : List Int, (∀ y, y ∈ m ↔ ∃ k : Nat, y = (k : Int) ∧ Reach l insideD (insideD l[n]) k) → roundB l n = decide ((n : Int) ∈ m) from fun m hm => by
    by_cases h : (n : Int) ∈ m
    · rw [decide_eq_true h]
      obtain ⟨k, e, hk⟩ := (hm _).1 h
      have : n = k := by omega
      subst this
      exact roundB_true ⟨hn, hk⟩
    · rw [decide_eq_false h]
      exact roundB_false (fun ⟨_, hk⟩ => h ((hm _).2 ⟨n, rfl, hk⟩)))
  clear hr hrf hne
  generalize l[n] = t at *
  go_enter Tryz.func67, Tryz.ntmps67
  go_wp2_with fail
  refine (sl3Parts t a3 c3 _ (by omega) Hrf.out).mono ?_
  rintro e w1 ⟨v1, rfl, hown1, hb1'⟩
  rw [Hmp.out] at hown1
  obtain ⟨a1, c1, rfl, _, hn1⟩ := hown1.nums
  have N1 := Lib.hid hn1
  have B1 := Lib.hid hb1'
  clear hown1 hn1 hb1'
  go_wp2_with fail
  refine (sl3FromIn _ c l a1 c1 (insideD t) w1 (Hr.out.below B1.out) N1.out (by have := Hil.out; omega) Hst.out Hne.out).mono ?_
  rintro e w2 ⟨v2, m, rfl, hown2, hmem, _, hml, hb2⟩
  have B2 := Lib.hid (B1.out.trans (hb2.mono B1.out.size))
  have Hq := Lib.hid (Hv.out m hmem)
  obtain ⟨a2, c2, rfl, _, hn2⟩ := hown2.nums
  have N2 := Lib.hid hn2
  clear hmem hown2 hb2 hn2
  go_wp2_with fail
  refine (sl1Has a2 c2 m n w2 (by omega) N2.out).mono ?_
  rintro e w3 ⟨rfl, rfl⟩
  rw [← Hq.out]
  go_wp2_with fail
  go_ret
  exact ⟨rfl, B2.out⟩

set_option maxRecDepth 100000 in
set_option maxHeartbeats 4000000 in
theorem sl3Good (a : Option Addr) (c : Nat) (l : List TypeD) (w : World) (hl : l.length ≤ 1048576) (hc : l.length ≤ c) (hc2 : c ≤ maxLen) (hm : ∀ t ∈ l, t.mod) (hr : Rows typeS Any w a l) :
    Calls Tryz.prog 43 #[.slice a l.length c] w fun e w' => e = .returned (.bool (goodB l)) ∧ Below w.heap.size w w' := by
  have Hr := Lib.hid hr
  have Hm := Lib.hid hm
  clear hr hm
  go_enter Tryz.func43, Tryz.ntmps43
  go_wp2_with fail
  refine (sl3Nearly a c l w hl hc hc2 Hm.out Hr.out).mono ?_
  rintro e w1 ⟨rfl, hb1⟩
  have B1 := Lib.hid hb1
  have R1 := Lib.hid (Hr.out.below hb1)
  clear hb1
  by_cases hne : near l
  · have hq := nearB_true hne
    have Hne := Lib.hid hne
    clear hne
    generalize nearB l = q at *
    subst hq
    go_wp2_with fail
    go_loopw [9] (fun i wr => ∃ k : Nat, i = .int .i64 k ∧ k ≤ l.length ∧ (∀ j, j < k → ¬ roundP l j) ∧ Below w1.heap.size w1 wr) (fun i _ => l.length - (intOf i).toNat)
    case atStart => exact ⟨0, rfl, by omega, fun j h => absurd h (by omega), Below.refl _ _⟩
    case round =>
      obtain ⟨k, rfl, hk, hno, hbel⟩ := hrel
      have Hno := Lib.hid hno
      have Hbel := Lib.hid hbel
      clear hno hbel
      by_cases hlt : k < l.length
      · go_wp2_with fail
        refine (sl3Round a c l k wr hlt Hne.out (R1.out.below Hbel.out)).mono ?_
        rintro e w2 ⟨rfl, hb2⟩
        have B2 := Lib.hid (Hbel.out.trans (hb2.mono Hbel.out.size))
        clear hb2
        by_cases hro : roundP l k
        · have hq := roundB_true hro
          have Hv := Lib.hid (goodB_false (l := l) (fun h => h.2 k hlt hro))
          clear hro
          generalize roundB l k = q at *
          subst hq
          go_wp2_with fail
          go_ret
          exact ⟨by rw [Hv.out]; rfl, B1.out.trans (B2.out.mono B1.out.size)⟩
        · have hq := roundB_false hro
          have Hno' := Lib.hid (show ∀ j, j < k + 1 → ¬ roundP l j from fun j hj => by
            by_cases e : j = k
            · subst e; exact hro
            · exact Hno.out j (by omega))
          clear hro
          generalize roundB l k = q at *
          subst hq
          go_wp2_with fail
          exact ⟨⟨k + 1, by congr 1, by omega, Hno'.out, B2.out⟩, by simp [intOf]; omega⟩
      · have Hv := Lib.hid (goodB_true ⟨Hne.out, fun n hn => Hno.out n (by omega)⟩)
        go_wp2_with fail
        go_ret
        exact ⟨by rw [Hv.out]; rfl, B1.out.trans (Hbel.out.mono B1.out.size)⟩
  · have hq := nearB_false hne
    have Hv := Lib.hid (goodB_false (l := l) (fun h => hne h.1))
    clear hne
    generalize nearB l = q at *
    subst hq
    go_wp2_with fail
    go_ret
    exact ⟨by rw [Hv.out]; rfl, B1.out⟩

end Go.Proofs.YtllddjmcemcdhaaGreat

namespace Go.Proofs.YtllddjmcemcdhaaGreat
open Go.ChangeShapes Go.WideShapes Go.ChangeAt Go.RowKit

def atP (l : List TypeD) (x : Int) : Prop := good l ∧ 0 ≤ x ∧ x < (l.length : Int)
open Classical in
noncomputable def atB (l : List TypeD) (x : Int) : Bool := decide (atP l x)
theorem atB_true {l : List TypeD} {x : Int} (h : atP l x) : atB l x = true := by unfold atB; simpa using h
theorem atB_false {l : List TypeD} {x : Int} (h : ¬ atP l x) : atB l x = false := by unfold atB; simpa using h

end Go.Proofs.YtllddjmcemcdhaaGreat
