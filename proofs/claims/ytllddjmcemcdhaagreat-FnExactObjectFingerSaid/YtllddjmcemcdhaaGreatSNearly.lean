
/-
  What is proved: contracts of the model's l3Base and l3Nearly. No condition beside what each theorem states.
-/
import Derived.Test.YtllddjmcemcdhaaGreatSType
namespace Go.Proofs.YtllddjmcemcdhaaGreat
open Go.ChangeShapes Go.WideShapes Go.ChangeAt Go.RowKit

def baseN (k : Nat) : ByteArray := if k = 0 then bINT else if k = 1 then bBOOL else bCHAR
/-- A type like the k-th of the first three. -/
def baseLike (k : Nat) (t : TypeD) : Prop := t.fKind = (k : Int) + 1 ∧ t.fLong = 0 ∧ t.fBase = -1 ∧ t.fFields.length = 0 ∧ t.fOwner.size = 0 ∧ t.fName = baseN k
def baseTo (l : List TypeD) (k : Nat) : Prop := ∀ i (hi : i < l.length), i < k → baseLike i l[i]
def baseOk (l : List TypeD) : Prop := 3 ≤ l.length ∧ baseTo l 3
open Classical in
noncomputable def baseB (l : List TypeD) : Bool := decide (baseOk l)
theorem baseB_true {l : List TypeD} (h : baseOk l) : baseB l = true := by unfold baseB; simpa using h
theorem baseB_false {l : List TypeD} (h : ¬ baseOk l) : baseB l = false := by unfold baseB; simpa using h
theorem base_bad {l : List TypeD} {k : Nat} (hk : k < 3) (h : k < l.length) (hn : ¬ baseLike k l[k]) : baseB l = false := baseB_false fun g => hn (g.2 k h hk)
theorem baseTo_next {l : List TypeD} {k : Nat} (hk : k < l.length) (h : baseTo l k) (h1 : baseLike k l[k]) : baseTo l (k + 1) := fun i hi hik => by
  by_cases e : i = k
  · subst e; exact h1
  · exact h i hi (by omega)
theorem baseA_at {w : World} {g : Nat} {t : TypeId} (h : Box w g t baseA) {k : Nat} (hk : k < 3) :
    w.cell? ⟨g, k * 6, none⟩ = some (.int .i64 ((k : Int) + 1)) ∧ w.cell? ⟨g, k * 6 + 1, none⟩ = some (.int .i64 0) ∧ w.cell? ⟨g, k * 6 + 2, none⟩ = some (.int .i64 (-1)) ∧ w.cell? ⟨g, k * 6 + 3, none⟩ = some (.slice none 0 0) ∧ w.cell? ⟨g, k * 6 + 4, none⟩ = some (.string ⟨#[]⟩) ∧ w.cell? ⟨g, k * 6 + 5, none⟩ = some (.string (baseN k)) := by
  rw [h.cell, h.cell, h.cell, h.cell, h.cell, h.cell]
  match k, hk with
  | 0, _ | 1, _ | 2, _ => exact ⟨rfl, rfl, rfl, rfl, rfl, rfl⟩

set_option maxRecDepth 100000 in
set_option maxHeartbeats 8000000 in
theorem sl3Base (a : Option Addr) (c : Nat) (l : List TypeD) (w : World) (hl : l.length ≤ 1048576) (hr : Rows typeS Any w a l) :
    Calls Tryz.prog 90 #[.slice a l.length c] w fun e w' => e = .returned (.bool (baseB l)) ∧ Below w.heap.size w w' := by
  have Hr := Lib.hid hr
  clear hr
  go_enter Tryz.func90, Tryz.ntmps90
  by_cases h3 : l.length < 3
  · have Hv := Lib.hid (baseB_false (l := l) (fun h => by have := h.1; omega))
    go_wp2_with fail
    go_ret
    exact ⟨by rw [Hv.out]; rfl, Below.refl _ _⟩
  go_wp2_with fail
  refine (sBaseTypes w).mono ?_
  rintro e w1 ⟨rfl, e1⟩
  have B1 := Lib.hid (show Below w.heap.size w w1 by rw [e1]; exact (Below.refl _ _).alloc (Nat.le_refl _) _)
  have X1 := Lib.hid (show Box w1 w.heap.size 110 baseA by rw [e1]; exact Box.new w _ _)
  have R1 := Lib.hid (Hr.out.below B1.out)
  clear e1 Hr
  go_wp2_with fail
  go_loopw [11] (fun i wr => ∃ k : Nat, i = .int .i64 k ∧ k ≤ 3 ∧ baseTo l k ∧ Below w1.heap.size w1 wr) (fun i _ => 3 - (intOf i).toNat)
  case atStart => exact ⟨0, rfl, by omega, fun _ _ h => absurd h (by omega), Below.refl _ _⟩
  case round =>
    obtain ⟨k, rfl, hk, hto, hbel⟩ := hrel
    have Hto := Lib.hid hto
    clear hto
    by_cases hlt : k < 3
    · have hkl : k < l.length := by omega
      obtain ⟨b, o, cs, rfl, _, hb1, hc1, hat⟩ := R1.out k hkl
      obtain ⟨a3, c3, rfl, _, _⟩ := hat
      have e0 := (hbel.cell (p := ⟨b, o + k * 6 + 0, none⟩) hb1).trans (hc1 0 (by decide))
      have e1 := (hbel.cell (p := ⟨b, o + k * 6 + 1, none⟩) hb1).trans (hc1 1 (by decide))
      have e2 := (hbel.cell (p := ⟨b, o + k * 6 + 2, none⟩) hb1).trans (hc1 2 (by decide))
      have e3 := (hbel.cell (p := ⟨b, o + k * 6 + 3, none⟩) hb1).trans (hc1 3 (by decide))
      have e4 := (hbel.cell (p := ⟨b, o + k * 6 + 4, none⟩) hb1).trans (hc1 4 (by decide))
      have e5 := (hbel.cell (p := ⟨b, o + k * 6 + 5, none⟩) hb1).trans (hc1 5 (by decide))
      simp at e0 e1 e2 e3 e4 e5
      obtain ⟨x0, x1, x2, x3, x4, x5⟩ := baseA_at (X1.out.below hbel X1.out.lt) hlt
      have Hbel := Lib.hid hbel
      have Hbad := Lib.hid (base_bad hlt hkl)
      have Hnx := Lib.hid (baseTo_next hkl Hto.out)
      have BB := Lib.hid (B1.out.trans (hbel.mono B1.out.size))
      have l1 : b < wr.heap.size := Nat.lt_of_lt_of_le hb1 hbel.size
      have l2 : w.heap.size < wr.heap.size := Nat.lt_of_lt_of_le X1.out.lt hbel.size
      clear hbel hc1
      generalize l[k] = t at *
      generalize hbn : baseN k = bn at *
      have key : baseLike k t ↔ (t.fKind = (k : Int) + 1 ∧ t.fLong = 0 ∧ t.fBase = -1 ∧ t.fFields.length = 0 ∧ t.fOwner.size = 0 ∧ t.fName = bn) := by unfold baseLike; rw [hbn]
      have Key := Lib.hid key
      clear key hbn
      by_cases p0 : t.fKind = (k : Int) + 1
      · by_cases p1 : t.fLong = 0
        · by_cases p2 : t.fBase = -1
          · by_cases p3 : t.fFields.length = 0
            · have p31 : ¬ (0 : Int) < (t.fFields.length : Int) := by omega
              by_cases p4 : t.fOwner.size = 0
              · have q4 := isEmpty_of p4
                by_cases p5 : t.fName = bn
                · have q5 := bytes_same t.fName bn true (by simp [p5])
                  have Hn := Lib.hid (Hnx.out (Key.out.2 ⟨p0, p1, p2, p3, p4, p5⟩))
                  clear p5
                  go_wp2_with fail
                  exact ⟨⟨k + 1, by congr 1, by omega, Hn.out, (Hbel.out.alloc Hbel.out.size _).alloc (by have := Hbel.out.size; simp; omega) _⟩, by simp [intOf]; omega⟩
                · have q5 := bytes_same t.fName bn false (by simp [p5])
                  have Hv := Lib.hid (Hbad.out (fun h => p5 (Key.out.1 h).2.2.2.2.2))
                  clear p5
                  go_wp2_with fail
                  go_ret
                  exact ⟨by rw [Hv.out]; rfl, (BB.out.alloc BB.out.size _).alloc (by have := BB.out.size; simp; omega) _⟩
              · have q4 := isEmpty_not p4
                have Hv := Lib.hid (Hbad.out (fun h => p4 (Key.out.1 h).2.2.2.2.1))
                go_wp2_with fail
                go_ret
                exact ⟨by rw [Hv.out]; rfl, (BB.out.alloc BB.out.size _).alloc (by have := BB.out.size; simp; omega) _⟩
            · have p31 : (0 : Int) < (t.fFields.length : Int) := by omega
              have p32 : 0 < t.fFields.length := by omega
              have Hv := Lib.hid (Hbad.out (fun h => p3 (Key.out.1 h).2.2.2.1))
              go_wp2_with fail
              go_ret
              exact ⟨by rw [Hv.out]; rfl, (BB.out.alloc BB.out.size _).alloc (by have := BB.out.size; simp; omega) _⟩
          · have Hv := Lib.hid (Hbad.out (fun h => p2 (Key.out.1 h).2.2.1))
            have p21 : (t.fBase != -1) = true := bne_iff_ne.2 p2
            go_wp2_with fail
            go_ret
            exact ⟨by rw [Hv.out]; rfl, (BB.out.alloc BB.out.size _).alloc (by have := BB.out.size; simp; omega) _⟩
        · have Hv := Lib.hid (Hbad.out (fun h => p1 (Key.out.1 h).2.1))
          have p11 : (t.fLong != 0) = true := bne_iff_ne.2 p1
          go_wp2_with fail
          go_ret
          exact ⟨by rw [Hv.out]; rfl, (BB.out.alloc BB.out.size _).alloc (by have := BB.out.size; simp; omega) _⟩
      · have Hv := Lib.hid (Hbad.out (fun h => p0 (Key.out.1 h).1))
        have p01 : (t.fKind != (k : Int) + 1) = true := bne_iff_ne.2 p0
        go_wp2_with fail
        go_ret
        exact ⟨by rw [Hv.out]; rfl, (BB.out.alloc BB.out.size _).alloc (by have := BB.out.size; simp; omega) _⟩
    · obtain rfl : k = 3 := by omega
      have Hv := Lib.hid (baseB_true ⟨by omega, Hto.out⟩)
      have Hbel := Lib.hid (B1.out.trans (hbel.mono B1.out.size))
      clear hbel
      go_wp2_with fail
      go_ret
      exact ⟨by rw [Hv.out]; rfl, Hbel.out⟩

/-- Named types from the fourth on are called unlike. -/
def unlike (t u : TypeD) : Prop := ¬ (t.fName.size ≠ 0 ∧ t.fName = u.fName ∧ t.fOwner = u.fOwner)
def nearTo (l : List TypeD) (k : Nat) : Prop := (∀ i (hi : i < l.length), 3 ≤ i → i < k → typeOk l l[i]) ∧ ∀ i j (hi : i < l.length) (hj : j < l.length), 3 ≤ i → i < j → j < k → unlike l[j] l[i]
def near (l : List TypeD) : Prop := baseOk l ∧ l.length ≤ 24 ∧ nearTo l l.length
open Classical in
noncomputable def nearB (l : List TypeD) : Bool := decide (near l)
theorem nearB_true {l : List TypeD} (h : near l) : nearB l = true := by unfold nearB; simpa using h
theorem nearB_false {l : List TypeD} (h : ¬ near l) : nearB l = false := by unfold nearB; simpa using h
theorem near_bad {l : List TypeD} {k : Nat} (h3 : 3 ≤ k) (h : k < l.length) (hn : ¬ typeOk l l[k]) : nearB l = false := nearB_false fun g => hn (g.2.2.1 k h h3 h)
theorem near_twice {l : List TypeD} {i k : Nat} (h3 : 3 ≤ i) (hik : i < k) (h : k < l.length) (hn : ¬ unlike l[k] l[i]) : nearB l = false := nearB_false fun g => hn (g.2.2.2 i k (by omega) h h3 hik h)
theorem nearTo_three {l : List TypeD} : nearTo l 3 := ⟨fun _ _ h h' => absurd h (by omega), fun _ _ _ _ h h' h'' => absurd h (by omega)⟩
theorem nearTo_next {l : List TypeD} {k : Nat} (hk : k < l.length) (h : nearTo l k) (h1 : typeOk l l[k]) (h2 : ∀ i (hi : i < l.length), 3 ≤ i → i < k → unlike l[k] l[i]) : nearTo l (k + 1) :=
  ⟨fun i hi h3 hik => by
    by_cases e : i = k
    · subst e; exact h1
    · exact h.1 i hi h3 (by omega), fun i j hi hj h3 hij hjk => by
    by_cases e : j = k
    · subst e; exact h2 i hi h3 hij
    · exact h.2 i j hi hj h3 hij (by omega)⟩

set_option maxRecDepth 100000 in
set_option maxHeartbeats 8000000 in
theorem sl3Nearly (a : Option Addr) (c : Nat) (l : List TypeD) (w : World) (hl : l.length ≤ 1048576) (hc : l.length ≤ c) (hc2 : c ≤ maxLen) (hm : ∀ t ∈ l, t.mod) (hr : Rows typeS Any w a l) :
    Calls Tryz.prog 66 #[.slice a l.length c] w fun e w' => e = .returned (.bool (nearB l)) ∧ Below w.heap.size w w' := by
  have Hr := Lib.hid hr
  have Hm := Lib.hid hm
  clear hr hm
  unfold maxLen at hc2
  go_enter Tryz.func66, Tryz.ntmps66
  go_wp2_with fail
  refine (sl3Base a c l _ hl Hr.out).mono ?_
  rintro e w1 ⟨rfl, hb1⟩
  have B1 := Lib.hid hb1
  have R1 := Lib.hid (Hr.out.below hb1)
  clear hb1 Hr
  by_cases hbo : baseOk l
  · have hq := baseB_true hbo
    have h3 := hbo.1
    have Hbo := Lib.hid hbo
    clear hbo
    generalize baseB l = q at *
    subst hq
    by_cases h24 : 24 < l.length
    · have Hv := Lib.hid (nearB_false (l := l) (fun h => by have := h.2.1; omega))
      go_wp2_with fail
      go_ret
      exact ⟨by rw [Hv.out]; rfl, B1.out⟩
    · obtain ⟨b, o, cs0, rfl, _, hb1, _, _⟩ := R1.out 0 (by omega)
      have h24' : ¬ (24 : Int) < (l.length : Int) := by omega
      by_cases hc3 : c = 3
      · have hl3 : l.length = 3 := by omega
        have Hv := Lib.hid (nearB_true ⟨Hbo.out, by omega, by rw [hl3]; exact nearTo_three⟩)
        go_wp2_with fail
        go_loopw [18] (fun i wr => i = .int .i64 0 ∧ Below w1.heap.size w1 wr) (fun _ _ => 0)
        case atStart => exact ⟨rfl, Below.refl _ _⟩
        case round =>
          obtain ⟨rfl, hbel⟩ := hrel
          have BB := Lib.hid (B1.out.trans (hbel.mono B1.out.size))
          clear hbel
          go_wp2_with fail
          go_ret
          exact ⟨by rw [Hv.out]; rfl, BB.out⟩
      · go_wp2_with fail
        go_loopw [18] (fun i wr => ∃ k : Nat, i = .int .i64 k ∧ k ≤ l.length - 3 ∧ nearTo l (3 + k) ∧ Below w1.heap.size w1 wr) (fun i _ => l.length - 3 - (intOf i).toNat)
        case atStart => exact ⟨0, rfl, by omega, nearTo_three, Below.refl _ _⟩
        case round =>
          obtain ⟨k, rfl, hk, hto, hbel⟩ := hrel
          have Hto := Lib.hid hto
          clear hto
          obtain ⟨wo, hwo⟩ : ∃ x, x = wr := ⟨_, rfl⟩
          subst hwo
          by_cases hlt : k < l.length - 3
          · have hkl : 3 + k < l.length := by omega
            obtain ⟨b', o', cs, hbo, _, _, hc1, hat⟩ := R1.out (3 + k) hkl
            injection hbo with hbo
            injection hbo with hbo1 hbo2
            subst hbo1
            subst hbo2
            obtain ⟨a3, c3, rfl, hrf, hfc⟩ := hat
            have cellW : ∀ (W : World), Below w1.heap.size w1 W → ∀ i (hi : 3 + i < l.length) (cs : List Value), (∀ j, j < typeS.n → w1.cell? ⟨b, o + (3 + i) * typeS.n + j, none⟩ = cs[j]?) → ∀ j, j < 6 → W.cell? ⟨b, o + 18 + i * 6 + j, none⟩ = cs[j]? := fun W hW i hi cs h j hj => by
              have := (hW.cell (p := ⟨b, o + (3 + i) * 6 + j, none⟩) hb1).trans (h j hj)
              rwa [show o + (3 + i) * 6 + j = o + 18 + i * 6 + j by omega] at this
            have CW := Lib.hid cellW
            clear cellW
            have e0 := CW.out _ hbel k hkl _ hc1 0 (by decide)
            have e1 := CW.out _ hbel k hkl _ hc1 1 (by decide)
            have e2 := CW.out _ hbel k hkl _ hc1 2 (by decide)
            have e3 := CW.out _ hbel k hkl _ hc1 3 (by decide)
            have e4 := CW.out _ hbel k hkl _ hc1 4 (by decide)
            have e5 := CW.out _ hbel k hkl _ hc1 5 (by decide)
            simp at e0 e1 e2 e3 e4 e5
            have Hbad := Lib.hid (near_bad (l := l) (k := 3 + k) (by omega) hkl)
            have Htw := Lib.hid (fun i (h3 : 3 ≤ i) (hik : i < 3 + k) => near_twice (l := l) h3 hik hkl)
            have Hnx := Lib.hid (nearTo_next hkl Hto.out)
            have Hmt := Lib.hid (Hm.out l[3 + k] (List.getElem_mem hkl))
            have HF := Lib.hid (hrf.below hbel)
            have HR := Lib.hid (R1.out.below hbel)
            have Hbel := Lib.hid hbel
            clear hbel hc1 hrf
            generalize l[3 + k] = t at *
            go_wp2_with fail
            refine (sl3Type _ c l t a3 c3 _ hl (HR.out.below ((Below.refl _ _).alloc (Nat.le_refl _) _)) Hmt.out (HF.out.below ((Below.refl _ _).alloc (Nat.le_refl _) _)) hfc).mono ?_
            rintro e w2 ⟨rfl, hb2⟩
            have hB := (Box.new wo 110 #[.int .i64 t.fKind, .int .i64 t.fLong, .int .i64 t.fBase, .slice a3 t.fFields.length c3, .string t.fOwner, .string t.fName]).below hb2 (by simp)
            have B2 := Lib.hid ((Hbel.out.alloc Hbel.out.size (.cells #[.int .i64 t.fKind, .int .i64 t.fLong, .int .i64 t.fBase, .slice a3 t.fFields.length c3, .string t.fOwner, .string t.fName] 110)).trans (hb2.mono (Hbel.out.alloc Hbel.out.size _).size))
            have HB := Lib.hid hB
            clear hB hb2
            by_cases hty : typeOk l t
            · have hq := typeB_true hty
              have Hty := Lib.hid hty
              clear hty
              generalize typeB l t = q at *
              subst hq
              go_wp2_with fail
              go_loopw [32] (fun i wr => ∃ q : Nat, i = .int .i64 q ∧ q ≤ k ∧ (∀ i (hi : i < l.length), 3 ≤ i → i < 3 + q → unlike t l[i]) ∧ Below w2.heap.size w2 wr) (fun i _ => k - (intOf i).toNat)
              case atStart => exact ⟨0, rfl, by omega, fun _ _ h h' => absurd h (by omega), Below.refl _ _⟩
              case round =>
                obtain ⟨q, rfl, hqk, hno, hbj⟩ := hrel
                have Hno := Lib.hid hno
                have hB2 := HB.out.below hbj HB.out.lt
                have y4 := hB2.cell 4
                have y5 := hB2.cell 5
                have l1 := hB2.lt
                simp at y4 y5
                have BW := Lib.hid (B2.out.trans (hbj.mono B2.out.size))
                have Hbj := Lib.hid hbj
                clear hno hB2 hbj
                by_cases hqlt : q < k
                · have hql : 3 + q < l.length := by omega
                  obtain ⟨b', o', cs', hbo, _, _, hc1', hat'⟩ := R1.out (3 + q) hql
                  injection hbo with hbo
                  injection hbo with hbo1 hbo2
                  subst hbo1
                  subst hbo2
                  obtain ⟨a3', c3', rfl, _, _⟩ := hat'
                  have g0 := CW.out _ BW.out q hql _ hc1' 0 (by decide)
                  have g1 := CW.out _ BW.out q hql _ hc1' 1 (by decide)
                  have g2 := CW.out _ BW.out q hql _ hc1' 2 (by decide)
                  have g3 := CW.out _ BW.out q hql _ hc1' 3 (by decide)
                  have g4 := CW.out _ BW.out q hql _ hc1' 4 (by decide)
                  have g5 := CW.out _ BW.out q hql _ hc1' 5 (by decide)
                  simp at g0 g1 g2 g3 g4 g5
                  have Hsame := Lib.hid (Htw.out (3 + q) (by omega) (by omega))
                  have Hno2 := Lib.hid (show unlike t l[3 + q] → ∀ i (hi : i < l.length), 3 ≤ i → i < 3 + (q + 1) → unlike t l[i] from fun h i hi h3 hiq => by
                    by_cases e : i = 3 + q
                    · subst e; exact h
                    · exact Hno.out i hi h3 (by omega))
                  have l2 : wo.heap.size ≠ wr.heap.size := by omega
                  clear hc1'
                  generalize l[3 + q] = u at *
                  by_cases hz : t.fName.size = 0
                  · have he := isEmpty_of hz
                    have Hn := Lib.hid (Hno2.out (fun h => h.1 hz))
                    go_wp2_with fail
                    exact ⟨⟨q + 1, by congr 1, by omega, Hn.out, Hbj.out.alloc Hbj.out.size _⟩, by simp [intOf]; omega⟩
                  · have he := isEmpty_not hz
                    by_cases hnm : t.fName = u.fName
                    · by_cases how : t.fOwner = u.fOwner
                      · have Hv := Lib.hid (Hsame.out (fun h => h ⟨hz, hnm, how⟩))
                        have q1 := bytes_same t.fName u.fName true (by simp [hnm])
                        have q2 := bytes_same t.fOwner u.fOwner true (by simp [how])
                        clear hnm how
                        go_wp2_with fail
                        go_ret
                        exact ⟨by rw [Hv.out]; rfl, (B1.out.trans (BW.out.mono B1.out.size)).alloc ((B1.out.trans (BW.out.mono B1.out.size)).size) _⟩
                      · have Hn := Lib.hid (Hno2.out (fun h => how h.2.2))
                        have q1 := bytes_same t.fName u.fName true (by simp [hnm])
                        have q2 := bytes_same t.fOwner u.fOwner false (by simp [how])
                        clear hnm how
                        go_wp2_with fail
                        exact ⟨⟨q + 1, by congr 1, by omega, Hn.out, Hbj.out.alloc Hbj.out.size _⟩, by simp [intOf]; omega⟩
                    · have Hn := Lib.hid (Hno2.out (fun h => hnm h.2.1))
                      have q1 := bytes_same t.fName u.fName false (by simp [hnm])
                      clear hnm
                      go_wp2_with fail
                      exact ⟨⟨q + 1, by congr 1, by omega, Hn.out, Hbj.out.alloc Hbj.out.size _⟩, by simp [intOf]; omega⟩
                · obtain rfl : q = k := by omega
                  have Hn := Lib.hid (Hnx.out Hty.out Hno.out)
                  go_wp2_with fail
                  exact ⟨⟨q + 1, by congr 1, by omega, Hn.out, BW.out⟩, by simp [intOf]; omega⟩
            · have hq := typeB_false hty
              have Hv := Lib.hid (Hbad.out hty)
              generalize typeB l t = q at *
              subst hq
              go_wp2_with fail
              go_ret
              exact ⟨by rw [Hv.out]; rfl, B1.out.trans (B2.out.mono B1.out.size)⟩
          · obtain rfl : k = l.length - 3 := by omega
            have Hv := Lib.hid (nearB_true ⟨Hbo.out, by omega, by have := Hto.out; rwa [show 3 + (l.length - 3) = l.length by omega] at this⟩)
            have BB := Lib.hid (B1.out.trans (hbel.mono B1.out.size))
            clear hbel
            go_wp2_with fail
            go_ret
            exact ⟨by rw [Hv.out]; rfl, BB.out⟩
  · have hq := baseB_false hbo
    have Hv := Lib.hid (nearB_false (l := l) (fun h => hbo h.1))
    generalize baseB l = q at *
    subst hq
    go_wp2_with fail
    go_ret
    exact ⟨by rw [Hv.out]; rfl, B1.out⟩

end Go.Proofs.YtllddjmcemcdhaaGreat
