
/-
  What is proved: contracts of DeepOf and RootOf, the program's and the model's: how many records lie behind a record, and the last one of these. No condition beside what each theorem states.
-/
import Derived.Test.YtmfpijakpmjmdaaExtends
namespace Go.Proofs.Ytmfpijakpmjmdaa
open Go.ChangeShapes Go.WideShapes Go.ChangeAt Go.RowKit

def recP (l : List TypeD) (x : Int) : Prop := good l ∧ kindZ l x = 5
open Classical in
noncomputable def recB (l : List TypeD) (x : Int) : Bool := decide (recP l x)
theorem recB_true {l : List TypeD} {x : Int} (h : recP l x) : recB l x = true := by unfold recB; simp only [decide_eq_true_eq]; exact h
theorem recB_false {l : List TypeD} {x : Int} (h : ¬ recP l x) : recB l x = false := by unfold recB; simp only [decide_eq_false_iff_not]; exact h
theorem recB_iff {l : List TypeD} {x : Int} : recB l x = true ↔ recP l x := by
  by_cases h : recP l x
  · simp [recB_true h, h]
  · simp [recB_false h, h]

def deepZ (l : List TypeD) (x : Int) : Int := ((chain l x).length : Int) - 1
def rootZ (l : List TypeD) (x : Int) : Int := (chain l x).getLast?.getD 0
theorem root_up {l : List TypeD} (hg : good l) {x : Int} (h : kindZ l x = 5) (hb : kindZ l (baseZ l x) = 5) : rootZ l x = rootZ l (baseZ l x) := by
  unfold rootZ
  rw [chain_cons hg h, chain_cons hg hb, List.getLast?_cons_cons]
theorem root_end {l : List TypeD} (hg : good l) {x : Int} (h : kindZ l x = 5) (hb : baseZ l x = -1) : rootZ l x = x := by
  unfold rootZ
  rw [chain_cons hg h, chain_end (x := baseZ l x) (by rw [hb, kindZ_out (by omega)]; decide)]
  rfl
theorem deep_end {l : List TypeD} (hg : good l) {x : Int} (h : kindZ l x = 5) (hb : baseZ l x = -1) : (chain l x).length = 1 := by
  rw [chain_cons hg h, chain_end (x := baseZ l x) (by rw [hb, kindZ_out (by omega)]; decide)]
  rfl
open Classical in
noncomputable def deepA (l : List TypeD) (x : Int) : Int := if recP l x then deepZ l x else 0
open Classical in
noncomputable def rootA (l : List TypeD) (x : Int) : Int := if recP l x then rootZ l x else 0
theorem deepA_in {l : List TypeD} {x : Int} (h : recP l x) : deepA l x = deepZ l x := by unfold deepA; rw [if_pos h]
theorem deepA_out {l : List TypeD} {x : Int} (h : ¬ recP l x) : deepA l x = 0 := by unfold deepA; rw [if_neg h]
theorem rootA_in {l : List TypeD} {x : Int} (h : recP l x) : rootA l x = rootZ l x := by unfold rootA; rw [if_pos h]
theorem rootA_out {l : List TypeD} {x : Int} (h : ¬ recP l x) : rootA l x = 0 := by unfold rootA; rw [if_neg h]

set_option maxHeartbeats 4000000 in
theorem iIsGoodRecord (a : Option Addr) (c : Nat) (l : List TypeD) (x : Int) (w : World) (hl : l.length ≤ 1048576) (hc : l.length ≤ c) (hc2 : c ≤ maxLen) (hm : ∀ t ∈ l, t.mod) (hr : Rows typeS Any w a l) :
    Calls Try.prog 56 #[.slice a l.length c, .int .i64 x] w fun e w' => e = .returned (.bool (recB l x)) ∧ Below w.heap.size w w' := by
  have Hr := Lib.hid hr
  have Hm := Lib.hid hm
  clear hr hm
  go_enter Try.func56, Try.ntmps56
  go_wp2_with fail
  refine (iGoodTypes a c l w hl hc hc2 Hm.out Hr.out).mono ?_
  rintro e w1 ⟨rfl, hb1⟩
  have B1 := Lib.hid hb1
  have R1 := Lib.hid (Hr.out.below hb1)
  clear hb1
  by_cases hg : good l
  · have hq := goodB_true hg
    have Hg := Lib.hid hg
    clear hg
    generalize goodB l = q at *
    subst hq
    go_wp2_with fail
    refine (iKindAt a c l x w1 R1.out).mono ?_
    rintro e w2 ⟨rfl, rfl⟩
    by_cases hx : kindZ l x = 5
    · have Hv := Lib.hid (recB_true ⟨Hg.out, hx⟩)
      have h2 : (kindZ l x == 5) = true := beq_iff_eq.2 hx
      clear hx
      go_wp2_with fail
      go_ret
      exact ⟨by rw [Hv.out]; rfl, B1.out⟩
    · have Hv := Lib.hid (recB_false (l := l) (x := x) (fun h => hx h.2))
      have h2 : (kindZ l x == 5) = false := beq_eq_false_iff_ne.2 hx
      clear hx
      go_wp2_with fail
      go_ret
      exact ⟨by rw [Hv.out]; rfl, B1.out⟩
  · have hq := goodB_false hg
    have Hv := Lib.hid (recB_false (l := l) (x := x) (fun h => hg h.1))
    clear hg
    generalize goodB l = q at *
    subst hq
    go_wp2_with fail
    go_ret
    exact ⟨by rw [Hv.out]; rfl, B1.out⟩

set_option maxHeartbeats 4000000 in
theorem sl10Record (a : Option Addr) (c : Nat) (l : List TypeD) (x : Int) (w : World) (hl : l.length ≤ 1048576) (hc : l.length ≤ c) (hc2 : c ≤ maxLen) (hm : ∀ t ∈ l, t.mod) (hr : Rows typeS Any w a l) :
    Calls Try.prog 54 #[.slice a l.length c, .int .i64 x] w fun e w' => e = .returned (.bool (recB l x)) ∧ Below w.heap.size w w' := by
  have Hr := Lib.hid hr
  have Hm := Lib.hid hm
  clear hr hm
  go_enter Try.func54, Try.ntmps54
  go_wp2_with fail
  refine (sl3Good a c l w hl hc hc2 Hm.out Hr.out).mono ?_
  rintro e w1 ⟨rfl, hb1⟩
  have B1 := Lib.hid hb1
  have R1 := Lib.hid (Hr.out.below hb1)
  clear hb1
  by_cases hg : good l
  · have hq := goodB_true hg
    have Hg := Lib.hid hg
    clear hg
    generalize goodB l = q at *
    subst hq
    go_wp2_with fail
    refine (sl3Kind a c l x 5 5 w1 hl (by decide) (by decide) R1.out).mono ?_
    rintro e w2 ⟨rfl, rfl⟩
    have Hv := Lib.hid (show decide (kindZ l x = 5 ∨ kindZ l x = 5) = recB l x by
      by_cases hx : kindZ l x = 5
      · rw [recB_true ⟨Hg.out, hx⟩]; exact decide_eq_true (.inl hx)
      · rw [recB_false (fun h => hx h.2)]; exact decide_eq_false (fun h => hx (h.elim id id)))
    rw [Hv.out]
    go_wp2_with fail
    go_ret
    exact ⟨rfl, B1.out⟩
  · have hq := goodB_false hg
    have Hv := Lib.hid (recB_false (l := l) (x := x) (fun h => hg h.1))
    clear hg
    generalize goodB l = q at *
    subst hq
    go_wp2_with fail
    go_ret
    exact ⟨by rw [Hv.out]; rfl, B1.out⟩

set_option maxRecDepth 100000 in
set_option maxHeartbeats 4000000 in
theorem iDeepOf (a : Option Addr) (c : Nat) (l : List TypeD) (x : Int) (w : World) (hl : l.length ≤ 1048576) (hc : l.length ≤ c) (hc2 : c ≤ maxLen) (hm : ∀ t ∈ l, t.mod) (hr : Rows typeS Any w a l) :
    Calls Try.prog 26 #[.slice a l.length c, .int .i64 x] w fun e w' => e = .returned (.tuple #[.int .i64 (deepA l x), .bool (recB l x)]) ∧ Below w.heap.size w w' := by
  have Hr := Lib.hid hr
  have Hm := Lib.hid hm
  clear hr hm
  go_enter Try.func26, Try.ntmps26
  go_wp2_with fail
  refine (iIsGoodRecord a c l x w hl hc hc2 Hm.out Hr.out).mono ?_
  rintro e w1 ⟨rfl, hb1⟩
  have B1 := Lib.hid hb1
  have R1 := Lib.hid (Hr.out.below hb1)
  clear hb1
  by_cases hg : recP l x
  · have hq := recB_true hg
    have Hg := Lib.hid hg
    have Hv := Lib.hid (deepA_in hg)
    clear hg
    rw [hq]
    go_wp2_with fail
    refine (iBasesFrom a c l x w1 Hg.out.1 Hg.out.2 R1.out).mono ?_
    rintro e w2 ⟨v, rfl, hown, hb2⟩
    have hcl := chain_len Hg.out.1 x
    obtain ⟨a2, c2, rfl, _, _⟩ := hown.nums
    have B2 := Lib.hid (B1.out.trans (hb2.mono B1.out.size))
    clear hown hb2
    go_wp2_with fail
    go_ret2
    exact ⟨by rw [Hv.out, hq]; rfl, B2.out⟩
  · have hq := recB_false hg
    have Hv := Lib.hid (deepA_out hg)
    clear hg
    rw [hq]
    go_wp2_with fail
    go_ret2
    exact ⟨by rw [Hv.out, hq]; rfl, B1.out⟩

set_option maxRecDepth 100000 in
set_option maxHeartbeats 4000000 in
theorem iRootOf (a : Option Addr) (c : Nat) (l : List TypeD) (x : Int) (w : World) (hl : l.length ≤ 1048576) (hc : l.length ≤ c) (hc2 : c ≤ maxLen) (hm : ∀ t ∈ l, t.mod) (hr : Rows typeS Any w a l) :
    Calls Try.prog 28 #[.slice a l.length c, .int .i64 x] w fun e w' => e = .returned (.tuple #[.int .i64 (rootA l x), .bool (recB l x)]) ∧ Below w.heap.size w w' := by
  have Hr := Lib.hid hr
  have Hm := Lib.hid hm
  clear hr hm
  go_enter Try.func28, Try.ntmps28
  go_wp2_with fail
  refine (iIsGoodRecord a c l x w hl hc hc2 Hm.out Hr.out).mono ?_
  rintro e w1 ⟨rfl, hb1⟩
  have B1 := Lib.hid hb1
  have R1 := Lib.hid (Hr.out.below hb1)
  clear hb1
  by_cases hg : recP l x
  · have hq := recB_true hg
    have Hg := Lib.hid hg
    have Hv := Lib.hid (rootA_in hg)
    clear hg
    rw [hq]
    go_wp2_with fail
    refine (iBasesFrom a c l x w1 Hg.out.1 Hg.out.2 R1.out).mono ?_
    rintro e w2 ⟨v, rfl, hown, hb2⟩
    have hcl := chain_len Hg.out.1 x
    have hcp : 0 < (chain l x).length := by rw [chain_cons Hg.out.1 Hg.out.2]; simp
    obtain ⟨a2, c2, rfl, _, hn2⟩ := hown.nums
    have B2 := Lib.hid (B1.out.trans (hb2.mono B1.out.size))
    have hlast : rootZ l x = (chain l x)[(chain l x).length - 1] := by
      unfold rootZ
      rw [List.getLast?_eq_getElem?, List.getElem?_eq_getElem (by omega)]
      rfl
    obtain ⟨b, o, rfl, hbl, e0⟩ := hn2 ((chain l x).length - 1) (by omega)
    rw [← hlast] at e0
    clear hown hb2 hn2 hlast
    generalize rootZ l x = z at *
    generalize (chain l x).length = n at *
    obtain ⟨m, rfl⟩ : ∃ m, n = m + 1 := ⟨n - 1, by omega⟩
    simp only [Nat.add_sub_cancel] at e0
    go_wp2_with fail
    go_ret2
    exact ⟨by rw [Hv.out, hq]; rfl, B2.out⟩
  · have hq := recB_false hg
    have Hv := Lib.hid (rootA_out hg)
    clear hg
    rw [hq]
    go_wp2_with fail
    go_ret2
    exact ⟨by rw [Hv.out, hq]; rfl, B1.out⟩

set_option maxRecDepth 100000 in
set_option maxHeartbeats 4000000 in
theorem sDeepOf (a : Option Addr) (c : Nat) (l : List TypeD) (x : Int) (w : World) (hl : l.length ≤ 1048576) (hc : l.length ≤ c) (hc2 : c ≤ maxLen) (hm : ∀ t ∈ l, t.mod) (hr : Rows typeS Any w a l) :
    Calls Try.prog 25 #[.slice a l.length c, .int .i64 x] w fun e w' => e = .returned (.tuple #[.int .i64 (deepA l x), .bool (recB l x)]) ∧ Below w.heap.size w w' := by
  have Hr := Lib.hid hr
  have Hm := Lib.hid hm
  clear hr hm
  go_enter Try.func25, Try.ntmps25
  go_wp2_with fail
  refine (sl10Record a c l x w hl hc hc2 Hm.out Hr.out).mono ?_
  rintro e w1 ⟨rfl, hb1⟩
  have B1 := Lib.hid hb1
  have R1 := Lib.hid (Hr.out.below hb1)
  clear hb1
  by_cases hg : recP l x
  · have hq := recB_true hg
    have Hg := Lib.hid hg.1
    have Hx := Lib.hid hg.2
    have Hv := Lib.hid (deepA_in hg)
    have hcl := chain_len hg.1 x
    have h24 := hg.1.1.most
    clear hg
    rw [hq]
    go_wp2_with fail
    go_loop [1, 6] (fun i d => ∃ y dd : Int, i = .int .i64 y ∧ d = .int .i64 dd ∧ 0 ≤ dd ∧ dd + (chain l y).length = (chain l x).length ∧ kindZ l y = 5) (fun i _ => (chain l (intOf i)).length)
    case atStart => exact ⟨x, 0, rfl, rfl, by omega, by omega, Hx.out⟩
    case round =>
      obtain ⟨y, dd, rfl, rfl, hd0, hdd, h5⟩ := hrel
      have hcons := chain_cons Hg.out h5
      have hless := chain_less Hg.out h5
      have hlen : (chain l y).length = (chain l (baseZ l y)).length + 1 := by rw [hcons]; simp
      have Hend := Lib.hid (deep_end Hg.out h5)
      obtain ⟨k, rfl, hk, h5'⟩ := kind5 h5
      have hbz := baseZ_in hk
      have hnb := Hg.out.1.base hk h5'
      obtain ⟨b, o, a3, c3, rfl, hb1, e0, e1, e2, e3, e4, e5, hrf, _⟩ := type_cells R1.out hk (Below.refl _ _)
      clear hrf hcons
      rw [hbz] at hlen hless
      by_cases hb : l[k].fBase = -1
      · have hone := Hend.out (by rw [hbz]; exact hb)
        have Hd := Lib.hid (show deepZ l x = dd by unfold deepZ; omega)
        have hge : ¬ (0 ≤ l[k].fBase) := by omega
        clear hdd hlen hless hone hnb hbz
        generalize l[k] = t at *
        go_wp2_with fail
        go_ret2
        exact ⟨by rw [Hv.out, Hd.out]; rfl, B1.out⟩
      · have hb5 := hnb.resolve_left hb
        have hrg := kindZ_range (l := l) (x := l[k].fBase) (by omega)
        have hge : 0 ≤ l[k].fBase := hrg.1
        have Hb5 := Lib.hid hb5
        have hd24 : dd ≤ 24 := by omega
        have Hdd := Lib.hid (show dd + 1 + (chain l l[k].fBase).length = (chain l x).length by omega)
        have Hless := Lib.hid hless
        clear hdd hlen hless hnb hbz hb5 hb
        generalize l[k] = t at *
        go_wp2_with fail
        go_round
        case rel => exact ⟨_, dd + 1, rfl, by go_num, by omega, Hdd.out, Hb5.out⟩
        case measure => simpa [intOf] using Hless.out
  · have hq := recB_false hg
    have Hv := Lib.hid (deepA_out hg)
    clear hg
    rw [hq]
    go_wp2_with fail
    go_ret2
    exact ⟨by rw [Hv.out, hq]; rfl, B1.out⟩

set_option maxRecDepth 100000 in
set_option maxHeartbeats 4000000 in
theorem sRootOf (a : Option Addr) (c : Nat) (l : List TypeD) (x : Int) (w : World) (hl : l.length ≤ 1048576) (hc : l.length ≤ c) (hc2 : c ≤ maxLen) (hm : ∀ t ∈ l, t.mod) (hr : Rows typeS Any w a l) :
    Calls Try.prog 27 #[.slice a l.length c, .int .i64 x] w fun e w' => e = .returned (.tuple #[.int .i64 (rootA l x), .bool (recB l x)]) ∧ Below w.heap.size w w' := by
  have Hr := Lib.hid hr
  have Hm := Lib.hid hm
  clear hr hm
  go_enter Try.func27, Try.ntmps27
  go_wp2_with fail
  refine (sl10Record a c l x w hl hc hc2 Hm.out Hr.out).mono ?_
  rintro e w1 ⟨rfl, hb1⟩
  have B1 := Lib.hid hb1
  have R1 := Lib.hid (Hr.out.below hb1)
  clear hb1
  by_cases hg : recP l x
  · have hq := recB_true hg
    have Hg := Lib.hid hg.1
    have Hx := Lib.hid hg.2
    have Hv := Lib.hid (rootA_in hg)
    have h24 := hg.1.1.most
    clear hg
    rw [hq]
    go_wp2_with fail
    go_loop [1] (fun i => ∃ y : Int, i = .int .i64 y ∧ rootZ l y = rootZ l x ∧ kindZ l y = 5) (fun i => (chain l (intOf i)).length)
    case atStart => exact ⟨x, rfl, rfl, Hx.out⟩
    case round =>
      obtain ⟨y, rfl, hrt, h5⟩ := hrel
      have hless := chain_less Hg.out h5
      have Hend := Lib.hid (root_end Hg.out h5)
      have Hup := Lib.hid (root_up Hg.out h5)
      obtain ⟨k, rfl, hk, h5'⟩ := kind5 h5
      have hbz := baseZ_in hk
      have hnb := Hg.out.1.base hk h5'
      obtain ⟨b, o, a3, c3, rfl, hb1, e0, e1, e2, e3, e4, e5, hrf, _⟩ := type_cells R1.out hk (Below.refl _ _)
      clear hrf
      rw [hbz] at hless Hup
      by_cases hb : l[k].fBase = -1
      · have Hd := Lib.hid (show rootZ l x = (k : Int) by rw [← hrt]; exact Hend.out (by rw [hbz]; exact hb))
        have hge : ¬ (0 ≤ l[k].fBase) := by omega
        clear hrt hless hnb hbz
        generalize l[k] = t at *
        go_wp2_with fail
        go_ret2
        exact ⟨by rw [Hv.out, Hd.out]; rfl, B1.out⟩
      · have hb5 := hnb.resolve_left hb
        have hrg := kindZ_range (l := l) (x := l[k].fBase) (by omega)
        have hge : 0 ≤ l[k].fBase := hrg.1
        have Hb5 := Lib.hid hb5
        have Hrt := Lib.hid (show rootZ l l[k].fBase = rootZ l x by rw [← hrt]; exact (Hup.out hb5).symm)
        have Hless := Lib.hid hless
        clear hrt hless hnb hbz hb5 hb
        generalize l[k] = t at *
        go_wp2_with fail
        go_round
        case rel => exact ⟨_, rfl, Hrt.out, Hb5.out⟩
        case measure => simpa [intOf] using Hless.out
  · have hq := recB_false hg
    have Hv := Lib.hid (rootA_out hg)
    clear hg
    rw [hq]
    go_wp2_with fail
    go_ret2
    exact ⟨by rw [Hv.out, hq]; rfl, B1.out⟩
end Go.Proofs.Ytmfpijakpmjmdaa
