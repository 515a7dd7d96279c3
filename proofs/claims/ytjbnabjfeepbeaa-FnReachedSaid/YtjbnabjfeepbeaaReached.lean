
/-
  What is proved: contracts of areRisingNumbers, l1Rising and of ReachedOf, the program's and the model's. No condition beside what each theorem states.
-/
import Derived.Test.YtjbnabjfeepbeaaSFromAll
import Derived.Test.YtjbnabjfeepbeaaSGood
import Derived.Test.YtjbnabjfeepbeaaSim
namespace Go.Proofs.Ytjbnabjfeepbeaa
open Go.ChangeShapes Go.WideShapes Go.ChangeAt Go.RowKit

def risesIn (n : Nat) (l : List Int) : Prop := (∀ x ∈ l, 0 ≤ x ∧ x < (n : Int)) ∧ Rises l
open Classical in
noncomputable def risesB (n : Nat) (l : List Int) : Bool := decide (risesIn n l)
theorem risesB_true {n : Nat} {l : List Int} (h : risesIn n l) : risesB n l = true := by unfold risesB; simpa using h
theorem risesB_false {n : Nat} {l : List Int} (h : ¬ risesIn n l) : risesB n l = false := by unfold risesB; simpa using h
def risesTo (n : Nat) (l : List Int) (k : Nat) : Prop := (∀ j (h : j < l.length), j < k → 0 ≤ l[j] ∧ l[j] < (n : Int)) ∧ ∀ i j (hi : i < l.length) (hj : j < l.length), i < j → j < k → l[i] < l[j]
theorem risesTo_zero (n : Nat) (l : List Int) : risesTo n l 0 := ⟨fun _ _ h => absurd h (by omega), fun _ _ _ _ _ h => absurd h (by omega)⟩
theorem risesTo_all {n : Nat} {l : List Int} (h : risesTo n l l.length) : risesIn n l :=
  ⟨fun x hx => by obtain ⟨j, hj, rfl⟩ := List.getElem_of_mem hx; exact h.1 j hj hj, by unfold Rises; rw [List.pairwise_iff_getElem]; exact fun i j hi hj hij => h.2 i j hi hj hij hj⟩
theorem risesTo_next {n : Nat} {l : List Int} {k : Nat} (hk : k < l.length) (h : risesTo n l k) (h1 : 0 ≤ l[k] ∧ l[k] < (n : Int)) (h2 : k = 0 ∨ ∃ h' : k - 1 < l.length, l[k - 1] < l[k]) : risesTo n l (k + 1) :=
  ⟨fun j hj hjk => by
    by_cases e : j = k
    · subst e; exact h1
    · exact h.1 j hj (by omega), fun i j hi hj hij hjk => by
    by_cases e : j = k
    · subst e
      rcases h2 with h2 | ⟨h', h2⟩
      · omega
      · by_cases e2 : i = j - 1
        · subst e2; exact h2
        · have := h.2 i (j - 1) hi h' (by omega) (by omega); omega
    · exact h.2 i j hi hj hij (by omega)⟩
theorem rises_bad {n : Nat} {l : List Int} {k : Nat} (hk : k < l.length) (h : ¬ (0 ≤ l[k] ∧ l[k] < (n : Int))) : risesB n l = false := risesB_false fun g => h (g.1 _ (List.getElem_mem hk))
theorem rises_drop {n : Nat} {l : List Int} {k : Nat} (hk : k < l.length) (h0 : 0 < k) (h : ¬ l[k - 1]'(by omega) < l[k]) : risesB n l = false := risesB_false fun g => by
  have h2 := g.2
  unfold Rises at h2
  rw [List.pairwise_iff_getElem] at h2
  exact h (h2 (k - 1) k (by omega) hk (by omega))

set_option maxHeartbeats 4000000 in
theorem iAreRising (a : Option Addr) (c n : Nat) (sa : Option Addr) (sc : Nat) (l : List Int) (w : World) (hl : l.length ≤ 1048576) (hr : Nums w sa l) :
    Calls Try.prog 69 #[.slice a n c, .slice sa l.length sc] w fun e w' => e = .returned (.bool (risesB n l)) ∧ w = w' := by
  have Hr := Lib.hid hr
  clear hr
  go_enter Try.func69, Try.ntmps69
  go_wp2_with fail
  go_loop [5, 10] (fun z i => ∃ (k : Nat) (y : Int), i = .int .i64 k ∧ z = .int .i64 y ∧ k ≤ l.length ∧ risesTo n l k ∧ ((k = 0 ∧ y = -1) ∨ ∃ h : k - 1 < l.length, 0 < k ∧ y = l[k - 1])) (fun _ i => l.length - (intOf i).toNat)
  case atStart => exact ⟨0, -1, rfl, rfl, by omega, risesTo_zero _ _, .inl ⟨rfl, rfl⟩⟩
  case round =>
    obtain ⟨k, y, rfl, rfl, hk, hto, hy⟩ := hrel
    have Hto := Lib.hid hto
    have Hy := Lib.hid hy
    clear hto hy
    by_cases hlt : k < l.length
    · obtain ⟨b, o, rfl, _, e0⟩ := Hr.out k hlt
      have Hbad := Lib.hid (rises_bad (n := n) hlt)
      have Hdrop := Lib.hid (rises_drop (n := n) hlt)
      have Hnext := Lib.hid (risesTo_next hlt Hto.out)
      by_cases h1 : l[k] ≤ y
      · have Hv := Lib.hid (show risesB n l = false by
          rcases Hy.out with ⟨_, rfl⟩ | ⟨h', h0, rfl⟩
          · exact Hbad.out (by omega)
          · exact Hdrop.out h0 (by omega))
        generalize l[k] = x at *
        go_wp2_with fail
        go_ret
        exact ⟨by rw [Hv.out]; rfl, rfl⟩
      · have Hlast := Lib.hid (show k = 0 ∨ ∃ h' : k - 1 < l.length, l[k - 1] < l[k] by
          rcases Hy.out with ⟨h, _⟩ | ⟨h', _, rfl⟩
          · exact .inl h
          · exact .inr ⟨h', by omega⟩)
        by_cases h2 : 0 ≤ l[k] ∧ l[k] < (n : Int)
        · have Hn := Lib.hid (Hnext.out h2 Hlast.out)
          have Hend := Lib.hid (show ((k + 1 = 0 ∧ l[k] = -1) ∨ ∃ h : k + 1 - 1 < l.length, 0 < k + 1 ∧ l[k] = l[k + 1 - 1]) from .inr ⟨by omega, by omega, by simp⟩)
          have hd : decide (0 ≤ l[k] ∧ l[k] < (n : Int)) = true := decide_eq_true h2
          have d1 : decide (l[k] ≤ y) = false := decide_eq_false h1
          clear h1 h2
          go_wp2_with fail
          refine (iTypeNumber a c n _ _).mono ?_
          rintro e w2 ⟨rfl, rfl⟩
          rw [hd]
          go_wp2_with fail
          go_round
          case rel => exact ⟨k + 1, l[k], by go_num, rfl, by omega, Hn.out, Hend.out⟩
          case measure => simp [intOf]; omega
        · have Hv := Lib.hid (Hbad.out h2)
          have hd : decide (0 ≤ l[k] ∧ l[k] < (n : Int)) = false := decide_eq_false h2
          have d1 : decide (l[k] ≤ y) = false := decide_eq_false h1
          clear h1 h2
          go_wp2_with fail
          refine (iTypeNumber a c n _ _).mono ?_
          rintro e w2 ⟨rfl, rfl⟩
          rw [hd]
          go_wp2_with fail
          go_ret
          exact ⟨by rw [Hv.out]; rfl, rfl⟩
    · have Hv := Lib.hid (risesB_true (risesTo_all (show risesTo n l l.length by rw [← show k = l.length by omega]; exact Hto.out)))
      go_wp2_with fail
      go_ret
      exact ⟨by rw [Hv.out]; rfl, rfl⟩

set_option maxHeartbeats 4000000 in
theorem sl1Rising (n : Nat) (sa : Option Addr) (sc : Nat) (l : List Int) (w : World) (hl : l.length ≤ 1048576) (hr : Nums w sa l) :
    Calls Try.prog 72 #[.slice sa l.length sc, .int .i64 0, .int .i64 ((n : Int) - 1)] w fun e w' => e = .returned (.bool (risesB n l)) ∧ w = w' := by
  have Hr := Lib.hid hr
  clear hr
  go_enter Try.func72, Try.ntmps72
  go_wp2_with fail
  go_loop [11] (fun i => ∃ (k : Nat), i = .int .i64 k ∧ k ≤ l.length ∧ risesTo n l k) (fun i => l.length - (intOf i).toNat)
  case atStart => exact ⟨0, rfl, by omega, risesTo_zero _ _⟩
  case round =>
    obtain ⟨k, rfl, hk, hto⟩ := hrel
    have Hto := Lib.hid hto
    clear hto
    by_cases hlt : k < l.length
    · obtain ⟨b, o, rfl, _, e0⟩ := Hr.out k hlt
      have Hbad := Lib.hid (rises_bad (n := n) hlt)
      have Hdrop := Lib.hid (rises_drop (n := n) hlt)
      have Hnext := Lib.hid (risesTo_next hlt Hto.out)
      by_cases h2 : 0 ≤ l[k] ∧ l[k] < (n : Int)
      · by_cases h0 : k = 0
        · have Hn := Lib.hid (Hnext.out h2 (.inl h0))
          have hk0 : ¬ 0 < (k : Int) := by omega
          have hk00 : decide (0 < (k : Int)) = false := decide_eq_false hk0
          clear h0
          generalize l[k] = x at *
          go_wp2_with fail
          refine (sIn_yes _ _ _ _ (by omega) (by omega)).mono ?_
          rintro e w2 ⟨rfl, rfl⟩
          go_wp2_with fail
          go_round
          case rel => exact ⟨k + 1, by go_num, by omega, Hn.out⟩
          case measure => simp [intOf]; omega
        · have hk1 : k - 1 < l.length := by omega
          obtain ⟨b', o', hbo, _, e1⟩ := Hr.out (k - 1) hk1
          cases hbo
          have hkk : 0 < (k : Int) := by omega
          have hi1 : 0 ≤ (k : Int) - 1 := by omega
          have hi2 : (k : Int) - 1 < (l.length : Int) := by omega
          by_cases h3 : l[k - 1] < l[k]
          · have Hn := Lib.hid (Hnext.out h2 (.inr ⟨hk1, h3⟩))
            have d3 : ¬ l[k] ≤ l[k - 1] := by omega
            clear h3
            generalize l[k] = x at *
            generalize l[k - 1] = x' at *
            go_wp2_with fail
            refine (sIn_yes _ _ _ _ (by omega) (by omega)).mono ?_
            rintro e w2 ⟨rfl, rfl⟩
            go_wp2_with fail
            go_round
            case rel => exact ⟨k + 1, by go_num, by omega, Hn.out⟩
            case measure => simp [intOf]; omega
          · have Hv := Lib.hid (Hdrop.out (by omega) h3)
            have d3 : l[k] ≤ l[k - 1] := by omega
            clear h3
            generalize l[k] = x at *
            generalize l[k - 1] = x' at *
            go_wp2_with fail
            refine (sIn_yes _ _ _ _ (by omega) (by omega)).mono ?_
            rintro e w2 ⟨rfl, rfl⟩
            go_wp2_with fail
            go_ret
            exact ⟨by rw [Hv.out]; rfl, rfl⟩
      · have Hv := Lib.hid (Hbad.out h2)
        generalize l[k] = x at *
        go_wp2_with fail
        refine (sIn_no _ _ _ _ (by omega)).mono ?_
        rintro e w2 ⟨rfl, rfl⟩
        go_wp2_with fail
        go_ret
        exact ⟨by rw [Hv.out]; rfl, rfl⟩
    · have Hv := Lib.hid (risesB_true (risesTo_all (show risesTo n l l.length by rw [← show k = l.length by omega]; exact Hto.out)))
      go_wp2_with fail
      go_ret
      exact ⟨by rw [Hv.out]; rfl, rfl⟩

def reachP (l : List TypeD) (st : List Int) : Prop := good l ∧ risesIn l.length st
open Classical in
noncomputable def reachB (l : List TypeD) (st : List Int) : Bool := decide (reachP l st)
theorem reachB_true {l : List TypeD} {st : List Int} (h : reachP l st) : reachB l st = true := by unfold reachB; simpa using h
theorem reachB_false {l : List TypeD} {st : List Int} (h : ¬ reachP l st) : reachB l st = false := by unfold reachB; simpa using h
/-- What is told: nothing, or the numbers that are reached, rising. -/
def isReached (l : List TypeD) (st m : List Int) : Prop := (reachP l st → (∀ y, y ∈ m ↔ ∃ n : Nat, y = (n : Int) ∧ Reach l partsD st n) ∧ Rises m) ∧ (¬ reachP l st → m = []) ∧ m.length ≤ 24
theorem rises_nodup {m : List Int} (h : Rises m) : m.Nodup := List.Pairwise.imp (fun h => by omega) h
theorem reach_len {l : List TypeD} {st : List Int} (h : risesIn l.length st) (h24 : l.length ≤ 24) : st.length ≤ 24 := by
  have := nodup_most l.length st (rises_nodup h.2) h.1
  omega
theorem rises_ext : ∀ {m m' : List Int}, Rises m → Rises m' → (∀ y, y ∈ m ↔ y ∈ m') → m = m'
  | [], [], _, _, _ => rfl
  | [], x :: m', _, _, h => by have := (h x).2 (by simp); cases this
  | x :: m, [], _, _, h => by have := (h x).1 (by simp); cases this
  | x :: m, y :: m', h1, h2, h => by
    have h1' := List.pairwise_cons.1 h1
    have h2' := List.pairwise_cons.1 h2
    have hxy : x = y := by
      have a := (h x).1 (by simp)
      have b := (h y).2 (by simp)
      rcases List.mem_cons.1 a with a | a
      · exact a
      · rcases List.mem_cons.1 b with b | b
        · exact b.symm
        · have := h2'.1 x a; have := h1'.1 y b; omega
    subst hxy
    rw [rises_ext (m := m) (m' := m') h1'.2 h2'.2 (fun z => by
      have hz := h z
      simp only [List.mem_cons] at hz
      constructor
      · intro hm
        rcases hz.1 (.inr hm) with rfl | h
        · exact absurd (h1'.1 z hm) (by omega)
        · exact h
      · intro hm
        rcases hz.2 (.inr hm) with rfl | h
        · exact absurd (h2'.1 z hm) (by omega)
        · exact h)]
theorem isReached.eq {l : List TypeD} {st m m' : List Int} (h : isReached l st m) (h' : isReached l st m') : m = m' := by
  by_cases hp : reachP l st
  · obtain ⟨h1, h2⟩ := h.1 hp
    obtain ⟨h3, h4⟩ := h'.1 hp
    exact rises_ext h2 h4 (fun y => (h1 y).trans (h3 y).symm)
  · rw [h.2.1 hp, h'.2.1 hp]

set_option maxHeartbeats 4000000 in
theorem sReachedOf (a : Option Addr) (c : Nat) (l : List TypeD) (sa : Option Addr) (sc : Nat) (st : List Int) (w : World) (hl : l.length ≤ 1048576) (hc : l.length ≤ c) (hc2 : c ≤ maxLen) (hm : ∀ t ∈ l, t.mod) (hst : st.length ≤ 1048576) (hr : Rows typeS Any w a l) (hs : Nums w sa st) :
    Calls Try.prog 22 #[.slice a l.length c, .slice sa st.length sc] w fun e w' => ∃ v m, e = .returned (.tuple #[v, .bool (reachB l st)]) ∧ OwnInts w' w.heap.size v m ∧ isReached l st m ∧ Below w.heap.size w w' := by
  have Hr := Lib.hid hr
  have Hm := Lib.hid hm
  have Hs := Lib.hid hs
  clear hr hm hs
  go_enter Try.func22, Try.ntmps22
  go_wp2_with fail
  refine (sl3Good a c l w hl hc hc2 Hm.out Hr.out).mono ?_
  rintro e w1 ⟨rfl, hb1⟩
  have B1 := Lib.hid hb1
  clear hb1
  by_cases hg : good l
  · have hq := goodB_true hg
    have Hg := Lib.hid hg
    have h24 := hg.1.most
    clear hg
    generalize goodB l = q at *
    subst hq
    go_wp2_with fail
    refine (sl1Rising l.length sa sc st w1 hst (Hs.out.below B1.out)).mono ?_
    rintro e w2 ⟨rfl, rfl⟩
    by_cases hri : risesIn l.length st
    · have hq := risesB_true hri
      have Hri := Lib.hid hri
      have Hv := Lib.hid (reachB_true ⟨Hg.out, hri⟩)
      clear hri
      generalize risesB l.length st = q at *
      subst hq
      go_wp2_with fail
      refine (sl3FromAll a c l sa sc st w1 (Hr.out.below B1.out) (Hs.out.below B1.out) (reach_len Hri.out h24) Hri.out.1 Hg.out.1).mono ?_
      rintro e w3 ⟨v, m, rfl, hown, hmem, hris, hml, hb3⟩
      have Hx := Lib.hid (show isReached l st m from ⟨fun _ => ⟨hmem, hris⟩, fun h => absurd ⟨Hg.out, Hri.out⟩ h, hml⟩)
      have O3 := Lib.hid (hown.lower (B' := w.heap.size) B1.out.size)
      have B3 := Lib.hid (B1.out.trans (hb3.mono B1.out.size))
      clear hown hmem hris hb3
      go_wp2_with fail
      go_ret2
      exact ⟨v, m, by rw [Hv.out]; rfl, O3.out, Hx.out, B3.out⟩
    · have hq := risesB_false hri
      have Hv := Lib.hid (reachB_false (l := l) (st := st) (fun h => hri h.2))
      have Hx := Lib.hid (show isReached l st [] from ⟨fun h => absurd h.2 hri, fun _ => rfl, by simp⟩)
      clear hri
      generalize risesB l.length st = q at *
      subst hq
      go_wp2_with fail
      go_ret2
      exact ⟨_, [], by rw [Hv.out]; rfl, OwnInts.nil, Hx.out, B1.out⟩
  · have hq := goodB_false hg
    have Hv := Lib.hid (reachB_false (l := l) (st := st) (fun h => hg h.1))
    have Hx := Lib.hid (show isReached l st [] from ⟨fun h => absurd h.1 hg, fun _ => rfl, by simp⟩)
    clear hg
    generalize goodB l = q at *
    subst hq
    go_wp2_with fail
    go_ret2
    exact ⟨_, [], by rw [Hv.out]; rfl, OwnInts.nil, Hx.out, B1.out⟩

set_option maxHeartbeats 4000000 in
theorem iReachedOf (a : Option Addr) (c : Nat) (l : List TypeD) (sa : Option Addr) (sc : Nat) (st : List Int) (w : World) (hl : l.length ≤ 1048576) (hc : l.length ≤ c) (hc2 : c ≤ maxLen) (hm : ∀ t ∈ l, t.mod) (hst : st.length ≤ 1048576) (hr : Rows typeS Any w a l) (hs : Nums w sa st) :
    Calls Try.prog 21 #[.slice a l.length c, .slice sa st.length sc] w fun e w' => ∃ v m, e = .returned (.tuple #[v, .bool (reachB l st)]) ∧ OwnInts w' w.heap.size v m ∧ isReached l st m ∧ Below w.heap.size w w' := by
  have Hr := Lib.hid hr
  have Hm := Lib.hid hm
  have Hs := Lib.hid hs
  clear hr hm hs
  go_enter Try.func21, Try.ntmps21
  go_wp2_with fail
  refine (iGoodTypes a c l w hl hc hc2 Hm.out Hr.out).mono ?_
  rintro e w1 ⟨rfl, hb1⟩
  have B1 := Lib.hid hb1
  clear hb1
  by_cases hg : good l
  · have hq := goodB_true hg
    have Hg := Lib.hid hg
    have h24 := hg.1.most
    clear hg
    generalize goodB l = q at *
    subst hq
    go_wp2_with fail
    refine (iAreRising a c l.length sa sc st w1 hst (Hs.out.below B1.out)).mono ?_
    rintro e w2 ⟨rfl, rfl⟩
    by_cases hri : risesIn l.length st
    · have hq := risesB_true hri
      have Hri := Lib.hid hri
      have Hv := Lib.hid (reachB_true ⟨Hg.out, hri⟩)
      clear hri
      generalize risesB l.length st = q at *
      subst hq
      go_wp2_with fail
      have Hpt := Lib.hid Hg.out.1.parts
      refine (iSpreadAll a c l sa sc st w1 h24 (Hr.out.below B1.out) (Hs.out.below B1.out) (reach_len Hri.out h24) Hri.out.1 Hg.out.1.six Hpt.out).mono ?_
      rintro e w3 ⟨R, rfl, hR, hre, hb3⟩
      have Hre := Lib.hid hre
      have B3 := Lib.hid (B1.out.trans (hb3.mono B1.out.size))
      clear hre hb3
      go_wp2_with fail
      go_loopw [21, 6] (fun i v wr => ∃ (k : Nat) (m : List Int), i = .int .i64 k ∧ k ≤ 24 ∧ OwnInts wr w.heap.size v m ∧ (∀ y, y ∈ m ↔ ∃ j : Nat, y = (j : Int) ∧ j < k ∧ R[j]? = some true) ∧ Rises m ∧ m.length ≤ k ∧ Below w.heap.size w wr) (fun i _ _ => 24 - (intOf i).toNat)
      case atStart => exact ⟨0, [], rfl, by omega, OwnInts.nil, fun y => ⟨fun h => (by cases h), fun ⟨j, _, h, _⟩ => absurd h (by omega)⟩, List.Pairwise.nil, by simp, B3.out⟩
      case round =>
        rename_i wr v
        obtain ⟨k, m, rfl, hk, hown, hmem, hris, hml, hbel⟩ := hrel
        have Ho := Lib.hid hown
        have Hmem := Lib.hid hmem
        have Hris := Lib.hid hris
        have Hbel := Lib.hid hbel
        have hs := hbel.size
        clear hown hmem hris hbel
        by_cases hlt : k < 24
        · have hkR : k < R.length := by omega
          have hix := index_bools hR (List.getElem?_eq_getElem hkR)
          cases hq : R[k] with
          | true =>
            rw [hq] at hix
            have hget : R[k]? = some true := by rw [List.getElem?_eq_getElem hkR, hq]
            have Hm2 := Lib.hid (show ∀ y, y ∈ m ++ [(k : Int)] ↔ ∃ j : Nat, y = (j : Int) ∧ j < k + 1 ∧ R[j]? = some true from fun y => by
              rw [List.mem_append, List.mem_singleton, Hmem.out y]
              constructor
              · rintro (⟨j, h1, h2, h3⟩ | h)
                · exact ⟨j, h1, by omega, h3⟩
                · exact ⟨k, h, by omega, hget⟩
              · rintro ⟨j, h1, h2, h3⟩
                by_cases e : j = k
                · subst e; exact .inr h1
                · exact .inl ⟨j, h1, by omega, h3⟩)
            have Hr2 := Lib.hid (show Rises (m ++ [(k : Int)]) from List.pairwise_append.2 ⟨Hris.out, List.pairwise_singleton _ _, fun y hy z hz => by
              rw [List.mem_singleton.1 hz]
              obtain ⟨j, h1, h2, _⟩ := (Hmem.out y).1 hy
              omega⟩)
            go_wp2_with (at_builtin; refine wpList_pushInt rfl _ _ rfl w.heap.size _ _ m rfl Ho.out _ _ rfl rfl (by omega) hs ?_)
            intro v' w4 hown4 hg4 hlt4
            have B4 := Lib.hid (Hbel.out.grown hg4 hs (fun k hk => (hlt4 k hk).1))
            have O4 := Lib.hid hown4
            clear hown4 hg4 hlt4
            go_wp2_with fail
            exact ⟨⟨k + 1, m ++ [(k : Int)], by congr 1, by omega, O4.out, Hm2.out, Hr2.out, by simp; omega, B4.out⟩, by simp [intOf]; omega⟩
          | false =>
            rw [hq] at hix
            have Hm2 := Lib.hid (show ∀ y, y ∈ m ↔ ∃ j : Nat, y = (j : Int) ∧ j < k + 1 ∧ R[j]? = some true from fun y => by
              rw [Hmem.out y]
              constructor
              · rintro ⟨j, h1, h2, h3⟩
                exact ⟨j, h1, by omega, h3⟩
              · rintro ⟨j, h1, h2, h3⟩
                by_cases e : j = k
                · subst e; rw [List.getElem?_eq_getElem hkR, hq] at h3; cases h3
                · exact ⟨j, h1, by omega, h3⟩)
            go_wp2_with fail
            exact ⟨⟨k + 1, m, by congr 1, by omega, Ho.out, Hm2.out, Hris.out, by omega, Hbel.out⟩, by simp [intOf]; omega⟩
        · have Hx := Lib.hid (show isReached l st m from ⟨fun _ => ⟨fun y => by
            rw [Hmem.out y]
            constructor
            · rintro ⟨j, h1, _, h3⟩; exact ⟨j, h1, (Hre.out j).1 h3⟩
            · rintro ⟨j, h1, h3⟩
              have h4 := (Hre.out j).2 h3
              have h5 := (List.getElem?_eq_some_iff.1 h4).1
              exact ⟨j, h1, by omega, h4⟩, Hris.out⟩, fun h => absurd ⟨Hg.out, Hri.out⟩ h, by omega⟩)
          go_wp2_with fail
          go_ret2
          exact ⟨_, m, by rw [Hv.out]; rfl, Ho.out, Hx.out, Hbel.out⟩
    · have hq := risesB_false hri
      have Hv := Lib.hid (reachB_false (l := l) (st := st) (fun h => hri h.2))
      have Hx := Lib.hid (show isReached l st [] from ⟨fun h => absurd h.2 hri, fun _ => rfl, by simp⟩)
      clear hri
      generalize risesB l.length st = q at *
      subst hq
      go_wp2_with fail
      go_ret2
      exact ⟨_, [], by rw [Hv.out]; rfl, OwnInts.nil, Hx.out, B1.out⟩
  · have hq := goodB_false hg
    have Hv := Lib.hid (reachB_false (l := l) (st := st) (fun h => hg h.1))
    have Hx := Lib.hid (show isReached l st [] from ⟨fun h => absurd h.1 hg, fun _ => rfl, by simp⟩)
    clear hg
    generalize goodB l = q at *
    subst hq
    go_wp2_with fail
    go_ret2
    exact ⟨_, [], by rw [Hv.out]; rfl, OwnInts.nil, Hx.out, B1.out⟩
end Go.Proofs.Ytjbnabjfeepbeaa
