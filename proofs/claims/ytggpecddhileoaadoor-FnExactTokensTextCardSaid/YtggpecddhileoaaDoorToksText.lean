
/-
  What is proved: contracts of TokensText of the program and of its model, and the walk of its law. No condition beside what each theorem states.
-/
import Derived.Test.YtggpecddhileoaaDoorGoodToks
import Derived.Test.YtggpecddhileoaaDoorBuild
import Derived.Test.YtggpecddhileoaaDoorShelf
namespace Go.Proofs.YtggpecddhileoaaDoor
open Go.ChangeShapes Go.WideShapes Go.ChangeAt Go.RowKit

/-- The first k texts, a blank between. -/
def jt (l : List TokenD) : Nat → List UInt8
  | 0 => []
  | k + 1 => (if 0 < k then jt l k ++ [32] else jt l k) ++ ((l.map fun t => t.fText.data.toList).getD k [])

theorem jt_succ {l : List TokenD} {k : Nat} (h : k < l.length) : jt l (k + 1) = (if 0 < k then jt l k ++ [32] else jt l k) ++ l[k].fText.data.toList := by
  rw [jt]
  congr 1
  rw [List.getD_eq_getElem?_getD, List.getElem?_eq_getElem (by simpa using h)]
  simp

theorem jt_len {l : List TokenD} : ∀ k, k ≤ l.length → (jt l k).length ≤ k + wtK TokenD.wt l k
  | 0, _ => by simp [jt]
  | k + 1, h => by
    have := jt_len (l := l) k (by omega)
    rw [jt_succ (by omega), wtK_succ TokenD.wt (by omega), List.length_append]
    have e : l[k].fText.data.toList.length = l[k].wt := by show _ = l[k].fText.size; simp
    rw [e]
    split
    · rw [List.length_append, List.length_singleton]; omega
    · omega
theorem wtK_le {T : Type} (f : T → Nat) (l : List T) (k : Nat) : wtK f l k ≤ (l.map f).sum := by
  unfold wtK
  conv => rhs; rw [← List.take_append_drop k l]
  rw [List.map_append, List.sum_append]
  omega
theorem jt_bd {l : List TokenD} (hw : wtL TokenD.wt l ≤ 1048576) {k : Nat} (hk : k ≤ l.length) : (jt l k).length ≤ 1048576 := by
  have h1 := jt_len k hk
  have h2 := wtK_le TokenD.wt l k
  unfold wtL at hw
  omega

def textOk (l : List TokenD) : Prop := goodToks l ∧ (jt l l.length).length ≤ 1200
open Classical in
noncomputable def textB (l : List TokenD) : Bool := decide (textOk l)
open Classical in
noncomputable def textS (l : List TokenD) : ByteArray := if textOk l then ⟨(jt l l.length).toArray⟩ else ByteArray.empty
theorem textB_yes {l : List TokenD} (h : textOk l) : textB l = true ∧ textS l = ⟨(jt l l.length).toArray⟩ := by unfold textB textS; rw [if_pos h]; exact ⟨by simpa using h, rfl⟩
theorem textB_no {l : List TokenD} (h : ¬ textOk l) : textB l = false ∧ textS l = ByteArray.empty := by unfold textB textS; rw [if_neg h]; exact ⟨by simpa using h, rfl⟩
def TextAns (l : List TokenD) (e : Ending) : Prop := e = .returned (.tuple #[.string (textS l), .bool (textB l)])
theorem textAns_no {l : List TokenD} (h : ¬ textOk l) : TextAns l (.returned (.tuple #[.string ⟨#[]⟩, .bool false])) := by
  unfold TextAns
  rw [(textB_no h).1, (textB_no h).2]
  rfl
theorem textAns_yes {l : List TokenD} (h : textOk l) : TextAns l (.returned (.tuple #[.string ⟨(jt l l.length).toArray⟩, .bool true])) := by
  unfold TextAns
  rw [(textB_yes h).1, (textB_yes h).2]

theorem str_app (a : List UInt8) (b : ByteArray) : (⟨a.toArray⟩ : ByteArray) ++ b = ⟨(a ++ b.data.toList).toArray⟩ := by
  apply ByteArray.ext
  simp

theorem size_ofL (a : List UInt8) : (⟨a.toArray⟩ : ByteArray).size = a.length := rfl

set_option maxRecDepth 100000 in
set_option maxHeartbeats 4000000 in
theorem sToksText (a : Option Addr) (c : Nat) (l : List TokenD) (w : World) (hw : wtL TokenD.wt l ≤ 1048576) (hr : Rows tokenS Any w a l) :
    Calls Tryd.prog 17 #[.slice a l.length c] w fun e w' => TextAns l e ∧ Below w.heap.size w w' := by
  obtain ⟨hl, hs⟩ := token_wt hw
  have Hr := Lib.hid hr
  have Hs := Lib.hid hs
  have Hw := Lib.hid hw
  clear hr hs hw
  go_enter Tryd.func17, Tryd.ntmps17
  go_wp2_with fail
  refine (sl2Good a c l _ hl Hs.out Hr.out).mono ?_
  rintro e w1 ⟨rfl, hb1⟩
  have R1 := Lib.hid (Hr.out.below hb1)
  have B1 := Lib.hid hb1
  clear hb1
  by_cases hg : goodToks l
  · have hq := goodToksB_true hg
    have Hg := Lib.hid hg
    clear hg
    generalize goodToksB l = q at *
    subst hq
    go_wp2_with fail
    go_loopw [4, 12] (fun s i wr => ∃ k : Nat, i = .int .i64 k ∧ k ≤ l.length ∧ s = .string ⟨(jt l k).toArray⟩ ∧ Below w1.heap.size w1 wr) (fun _ i _ => l.length - (intOf i).toNat)
    case atStart => exact ⟨0, rfl, by omega, rfl, Below.refl _ _⟩
    case round =>
      obtain ⟨k, rfl, hk, rfl, hbel⟩ := hrel
      by_cases hlt : k < l.length
      · obtain ⟨b, o, cs, rfl, _, hb1, hc1, hat⟩ := R1.out k hlt
        obtain rfl : cs = [.int .i64 l[k].fKind, .string l[k].fText, .int .i64 l[k].fValue, .int .i64 l[k].fAt] := hat
        have hn : tokenS.n = 4 := rfl
        have e0 := (hbel.cell (p := ⟨b, o + k * 4 + 0, none⟩) hb1).trans (hc1 0 (by decide))
        have e1 := (hbel.cell (p := ⟨b, o + k * 4 + 1, none⟩) hb1).trans (hc1 1 (by decide))
        have e2 := (hbel.cell (p := ⟨b, o + k * 4 + 2, none⟩) hb1).trans (hc1 2 (by decide))
        have e3 := (hbel.cell (p := ⟨b, o + k * 4 + 3, none⟩) hb1).trans (hc1 3 (by decide))
        simp at e0 e1 e2 e3
        have Hbel := Lib.hid hbel
        have Hj := Lib.hid (jt_succ hlt)
        have hs1 := Hs.out l[k] (List.getElem_mem hlt)
        have hs4 : (jt l k).length ≤ 1048576 := jt_bd Hw.out hk
        have hs2 : (⟨(jt l k).toArray⟩ : ByteArray).size ≤ 1048576 := jt_bd Hw.out hk
        have hs3 : ((⟨(jt l k).toArray⟩ : ByteArray) ++ ⟨#[32]⟩).size ≤ 2000000 := by
          rw [ByteArray.size_append]
          have : (⟨#[32]⟩ : ByteArray).size = 1 := rfl
          omega
        clear hbel hc1
        generalize l[k] = t at *
        by_cases h0 : 0 < k
        · have Hj1 := Lib.hid (show (⟨(jt l k).toArray⟩ : ByteArray) ++ ⟨#[32]⟩ ++ t.fText = ⟨(jt l (k + 1)).toArray⟩ by
            rw [str_app, str_app, Hj.out, if_pos h0])
          go_wp2_with fail
          exact ⟨⟨k + 1, by congr 1, by omega, by first | rw [← Hj1.out] | (congr 1; exact Hj1.out), Hbel.out.alloc Hbel.out.size _⟩, by simp [intOf]; omega⟩
        · have Hj1 := Lib.hid (show (⟨(jt l k).toArray⟩ : ByteArray) ++ t.fText = ⟨(jt l (k + 1)).toArray⟩ by
            rw [str_app, Hj.out, if_neg h0])
          go_wp2_with fail
          exact ⟨⟨k + 1, by congr 1, by omega, by first | rw [← Hj1.out] | (congr 1; exact Hj1.out), Hbel.out.alloc Hbel.out.size _⟩, by simp [intOf]; omega⟩
      · obtain rfl : k = l.length := by omega
        have Hbel := Lib.hid (B1.out.trans (hbel.mono B1.out.size))
        clear hbel
        by_cases h12 : (jt l l.length).length ≤ 1200
        · have HA := Lib.hid (textAns_yes ⟨Hg.out, h12⟩)
          have hz : ¬ ((1200 : Int) < ((⟨(jt l l.length).toArray⟩ : ByteArray).size : Int)) := by rw [size_ofL]; omega
          generalize (⟨(jt l l.length).toArray⟩ : ByteArray) = z at *
          go_wp2_with fail
          go_ret2
          exact ⟨HA.out, Hbel.out⟩
        · have HA := Lib.hid (textAns_no (l := l) (fun h => h12 h.2))
          have hz : (1200 : Int) < ((⟨(jt l l.length).toArray⟩ : ByteArray).size : Int) := by rw [size_ofL]; omega
          generalize (⟨(jt l l.length).toArray⟩ : ByteArray) = z at *
          go_wp2_with fail
          go_ret2
          exact ⟨HA.out, Hbel.out⟩
  · have hq := goodToksB_false hg
    have HA := Lib.hid (textAns_no (l := l) (fun h => hg h.1))
    generalize goodToksB l = q at *
    subst hq
    go_wp2_with fail
    go_ret2
    exact ⟨HA.out, B1.out⟩

theorem cells_app (a : List UInt8) (s : ByteArray) : Lib.byteCells a ++ Lib.strCells s = Lib.byteCells (a ++ s.data.toList) := by
  simp [Lib.byteCells, Lib.strCells]
theorem cells_blank (a : List UInt8) : Lib.byteCells a ++ [.int .u8 32] = Lib.byteCells (a ++ [32]) := by
  simp [Lib.byteCells]

set_option maxRecDepth 100000 in
set_option maxHeartbeats 4000000 in
theorem iToksText (a : Option Addr) (c : Nat) (l : List TokenD) (w : World) (hw : wtL TokenD.wt l ≤ 1048576) (hr : Rows tokenS Any w a l) (hk : Kept w) :
    Calls Tryd.prog 12 #[.slice a l.length c] w fun e w' => TextAns l e ∧ Below w.heap.size w w' := by
  obtain ⟨hl, hs⟩ := token_wt hw
  have Hr := Lib.hid hr
  have Hs := Lib.hid hs
  have Hw := Lib.hid hw
  have HK := Lib.hid hk
  clear hr hs hw hk
  go_enter Tryd.func12, Tryd.ntmps12
  go_wp2_with fail
  refine (iGoodToks a c l _ hl Hs.out Hr.out HK.out).mono ?_
  rintro e w1 ⟨rfl, hb1⟩
  have R1 := Lib.hid (Hr.out.below hb1)
  have B1 := Lib.hid hb1
  clear hb1
  by_cases hg : goodToks l
  · have hq := goodToksB_true hg
    have Hg := Lib.hid hg
    clear hg
    generalize goodToksB l = q at *
    subst hq
    go_wp2_with fail
    go_loopw [12] (fun i wr => ∃ k : Nat, i = .int .i64 k ∧ k ≤ l.length ∧ Lib.IsBuilder tB t8 w1.heap.size w1.heap.size (Lib.byteCells (jt l k)) wr ∧ Below w1.heap.size w1 wr) (fun i _ => l.length - (intOf i).toNat)
    case atStart => exact ⟨0, rfl, by omega, Lib.fresh_isBuilder tB t8 w1, (Below.refl _ _).alloc (Nat.le_refl _) _⟩
    case round =>
      obtain ⟨k, rfl, hk, hbu, hbel⟩ := hrel
      have Hbu := Lib.hid hbu
      clear hbu
      by_cases hlt : k < l.length
      · obtain ⟨b, o, cs, rfl, _, hb1, hc1, hat⟩ := R1.out k hlt
        obtain rfl : cs = [.int .i64 l[k].fKind, .string l[k].fText, .int .i64 l[k].fValue, .int .i64 l[k].fAt] := hat
        have hn : tokenS.n = 4 := rfl
        have e0 := (hbel.cell (p := ⟨b, o + k * 4 + 0, none⟩) hb1).trans (hc1 0 (by decide))
        have e1 := (hbel.cell (p := ⟨b, o + k * 4 + 1, none⟩) hb1).trans (hc1 1 (by decide))
        have e2 := (hbel.cell (p := ⟨b, o + k * 4 + 2, none⟩) hb1).trans (hc1 2 (by decide))
        have e3 := (hbel.cell (p := ⟨b, o + k * 4 + 3, none⟩) hb1).trans (hc1 3 (by decide))
        simp at e0 e1 e2 e3
        have Hbel := Lib.hid hbel
        have Hj := Lib.hid (jt_succ hlt)
        have hs1 := Hs.out l[k] (List.getElem_mem hlt)
        have hs4 : (jt l k).length ≤ 1048576 := jt_bd Hw.out hk
        clear hbel hc1
        generalize l[k] = t at *
        obtain ⟨hbl, hun⟩ := builder_under Hbu.out
        have Hun := Lib.hid hun
        have Hsz := Lib.hid Hbel.out.size
        have hl1 : w1.heap.size ≠ wr.heap.size := by omega
        clear hun
        have Hmid := Lib.hid (show ∀ (W : World), (∀ q, wr.heap.size ≤ q → q < (wr.alloc (.cells #[.int .i64 t.fKind, .string t.fText, .int .i64 t.fValue, .int .i64 t.fAt] 33)).heap.size → W.heap[q]? = (wr.alloc (.cells #[.int .i64 t.fKind, .string t.fText, .int .i64 t.fValue, .int .i64 t.fAt] 33)).heap[q]?) → W.cell? ⟨wr.heap.size, 1, none⟩ = some (.string t.fText) from fun W hW => by
          have h1 := hW wr.heap.size (Nat.le_refl _) (by simp)
          have h2 : Box W wr.heap.size 33 #[.int .i64 t.fKind, .string t.fText, .int .i64 t.fValue, .int .i64 t.fAt] := h1.trans (Box.new wr _ _)
          rw [h2.cell]
          rfl)
        by_cases h0 : 0 < k
        · go_wp2_with fail
          refine (bWriteByte _ _ wr.heap.size _ 32 _ (builder_alloc Hbu.out _) (by rw [Lib.byteCells_length]; omega) (by have := Hsz.out; simp; omega) (under_alloc Hun.out hbl _) hbl).mono ?_
          rintro e w2 ⟨rfl, hbu2, hb2, ho2⟩
          have m1 := Hmid.out w2 ho2
          rw [cells_blank] at hbu2
          have B2 := Lib.hid ((Hbel.out.alloc Hsz.out _).trans hb2)
          obtain ⟨hbl2, hun2⟩ := builder_under (.inr hbu2)
          have Hun2 := Lib.hid hun2
          have Hbu2 := Lib.hid hbu2
          have Hsz2 := Lib.hid hb2.size
          clear hbu2 hb2 ho2 hun2
          go_wp2_with fail
          refine (bWriteString _ _ w2.heap.size _ t.fText _ (.inr Hbu2.out) (by rw [Lib.byteCells_length]; simp; omega) (by have := Hsz2.out; have := Hsz.out; simp at *; omega) Hun2.out hbl2).mono ?_
          rintro e w3 ⟨rfl, hbu3, hb3, _⟩
          rw [cells_app] at hbu3
          have B3 := Lib.hid (B2.out.trans hb3)
          have Hbu3 := Lib.hid (show Lib.IsBuilder tB t8 w1.heap.size w1.heap.size (Lib.byteCells (jt l (k + 1))) w3 from .inr (by rw [Hj.out, if_pos h0]; exact hbu3))
          clear hbu3 hb3
          go_wp2_with fail
          exact ⟨⟨k + 1, by congr 1, by omega, Hbu3.out, B3.out⟩, by simp [intOf]; omega⟩
        · go_wp2_with fail
          refine (bWriteString _ _ wr.heap.size _ t.fText _ (builder_alloc Hbu.out _) (by rw [Lib.byteCells_length]; omega) (by have := Hsz.out; simp; omega) (under_alloc Hun.out hbl _) hbl).mono ?_
          rintro e w3 ⟨rfl, hbu3, hb3, _⟩
          rw [cells_app] at hbu3
          have B3 := Lib.hid ((Hbel.out.alloc Hsz.out _).trans hb3)
          have Hbu3 := Lib.hid (show Lib.IsBuilder tB t8 w1.heap.size w1.heap.size (Lib.byteCells (jt l (k + 1))) w3 from .inr (by rw [Hj.out, if_neg h0]; exact hbu3))
          clear hbu3 hb3
          go_wp2_with fail
          exact ⟨⟨k + 1, by congr 1, by omega, Hbu3.out, B3.out⟩, by simp [intOf]; omega⟩
      · obtain rfl : k = l.length := by omega
        have Hbel := Lib.hid hbel
        have BB := Lib.hid (B1.out.trans (hbel.mono B1.out.size))
        have hlen : ((Lib.byteCells (jt l l.length)).length : Int) = ((jt l l.length).length : Int) := by rw [Lib.byteCells_length]
        clear hbel
        by_cases h12 : (jt l l.length).length ≤ 1200
        · have HA := Lib.hid (textAns_yes ⟨Hg.out, h12⟩)
          go_wp2_with fail
          refine (Tryd.Builder_Len _ _ _ _ Hbu.out).mono ?_
          rintro e w2 ⟨rfl, rfl⟩
          rw [hlen]
          go_wp2_with fail
          refine (Tryd.Builder_String_any _ _ _ _ Hbu.out Hbel.out.size).mono ?_
          rintro e w3 ⟨rfl, hb3⟩
          go_wp2_with fail
          go_ret2
          exact ⟨HA.out, BB.out.trans (hb3.mono B1.out.size)⟩
        · have HA := Lib.hid (textAns_no (l := l) (fun h => h12 h.2))
          go_wp2_with fail
          refine (Tryd.Builder_Len _ _ _ _ Hbu.out).mono ?_
          rintro e w2 ⟨rfl, rfl⟩
          rw [hlen]
          go_wp2_with fail
          go_ret2
          exact ⟨HA.out, BB.out⟩
  · have hq := goodToksB_false hg
    have HA := Lib.hid (textAns_no (l := l) (fun h => hg h.1))
    generalize goodToksB l = q at *
    subst hq
    go_wp2_with fail
    go_ret2
    exact ⟨HA.out, B1.out⟩

-- shell: FnExactTokensText
set_option maxHeartbeats 2000000 in
theorem law_FnExactTokensText (a : Option Addr) (len cap : Nat) (l : List TokenD) (w : World) (hin : CameIn tokenS TokenD.came w a len l) (hk : Kept w) :
    Calls Tryd.prog 5 #[.slice a len cap] w fun e w' => e = .returned (.bool true) ∧ Below w.heap.size w w' := by
  obtain ⟨rfl, hl, hr, hc⟩ := hin
  have Hr := Lib.hid hr
  have Hc := Lib.hid hc
  have HK := Lib.hid hk
  clear hr hc hk
  go_enter Tryd.func5, Tryd.ntmps5
  go_wp2_with fail
  refine (lSzTokenS a cap l _ 1048576 (by omega) (by omega) hl Hc.out Hr.out).mono ?_
  rintro e w1 ⟨r, rfl, hs, hb1⟩
  have B1 := Lib.hid hb1
  clear hb1
  rcases hs with rfl | ⟨h0, h1⟩
  · go_wp2_with fail
    go_ret
    exact ⟨rfl, B1.out⟩
  have Hw := Lib.hid (show wtL TokenD.wt l ≤ 1048576 by omega)
  obtain ⟨hl2, _⟩ := token_wt Hw.out
  clear h1
  go_wp2_with fail
  refine (lToTokenS a cap l _ hl2 (Hr.out.below B1.out)).mono ?_
  rintro e w2 ⟨rfl, hr2, hb2⟩
  have R2 := Lib.hid hr2.any
  have B2 := Lib.hid (B1.out.trans (hb2.mono B1.out.size))
  clear hr2 hb2
  go_wp2_with fail
  refine (sToksText _ _ l _ Hw.out R2.out).mono ?_
  rintro e w3 ⟨ha3, hb3⟩
  have B3 := Lib.hid (B2.out.trans (hb3.mono B2.out.size))
  clear hb3
  unfold TextAns at ha3
  subst ha3
  go_wp2_with fail
  refine (lToTokenS a cap l _ hl2 (Hr.out.below B3.out)).mono ?_
  rintro e w4 ⟨rfl, hr4, hb4⟩
  have R4 := Lib.hid hr4.any
  have B4 := Lib.hid (B3.out.trans (hb4.mono B3.out.size))
  clear hr4 hb4
  go_wp2_with fail
  refine (iToksText _ _ l _ Hw.out R4.out (HK.out.below B4.out)).mono ?_
  rintro e w5 ⟨ha5, hb5⟩
  have R5 := Lib.hid (R4.out.below hb5)
  have B5 := Lib.hid (B4.out.trans (hb5.mono B4.out.size))
  clear hb5
  unfold TextAns at ha5
  subst ha5
  have hbq := bytes_beq (textS l) (textS l) true (by simp)
  generalize textS l = z at *
  generalize textB l = q at *
  cases q
  all_goals
    go_wp2_with fail
    refine (lToTokenS a cap l _ hl2 (Hr.out.below B5.out)).mono ?_
    rintro e w6 ⟨rfl, hr6, hb6⟩
    have R6 := Lib.hid hr6.any
    have R5' := Lib.hid (R5.out.below hb6)
    have B6 := Lib.hid (B5.out.trans (hb6.mono B5.out.size))
    clear hr6 hb6
    go_wp2_with fail
    refine (lEqTokenS _ _ _ _ l _ hl2 R5'.out R6.out).mono ?_
    rintro e w7 ⟨rfl, hb7⟩
    go_wp2_with fail
    go_ret
    exact ⟨rfl, B6.out.trans (hb7.mono B6.out.size)⟩

end Go.Proofs.YtggpecddhileoaaDoor
