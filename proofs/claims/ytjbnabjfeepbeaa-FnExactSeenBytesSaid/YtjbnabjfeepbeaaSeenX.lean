
/-
  What is proved: contracts of SeenBytes, the program's and the model's, and the walk of its law. No condition beside what each theorem states.
-/
import Derived.Test.YtjbnabjfeepbeaaSeenW
import Derived.Test.YtjbnabjfeepbeaaLSeenG
import Derived.Deep.RegionHeld3
namespace Go.Proofs.Ytjbnabjfeepbeaa
open Go.ChangeShapes Go.WideShapes Go.ChangeAt Go.RowKit
set_option maxRecDepth 100000

theorem box3s {w : World} {g : Nat} {t : TypeId} {c0 c1 c2 : Value} (h : Box w g t #[c0, c1, c2]) : w.cell? ⟨g, 0, none⟩ = some c0 ∧ w.cell? ⟨g, 1, none⟩ = some c1 ∧ w.cell? ⟨g, 2, none⟩ = some c2 := ⟨h.cell 0, h.cell 1, h.cell 2⟩
theorem nbytes_sz (s : ByteArray) : (nbytes s).size = s.size + 1 := by unfold nbytes; rw [ByteArray.size_append, strOfNums_size]; simp; omega
/-- What a client saw as bytes. -/
noncomputable def seenZ (l : List SeenD) : ByteArray := eachPart seenPart l
open Classical in
noncomputable def seenBytes (l : List SeenD) : ByteArray := if seenP l then seenZ l else ByteArray.empty
theorem seenBytes_yes {l : List SeenD} (h : seenP l) : seenBytes l = seenZ l := by unfold seenBytes; rw [if_pos h]
theorem seenBytes_no {l : List SeenD} (h : ¬ seenP l) : seenBytes l = ByteArray.empty := by unfold seenBytes; rw [if_neg h]
theorem seenPart_good {t : SeenD} (h : seenOk t) : seenPart t = nbytes t.fMod ++ nbytes t.fName ++ wideB t.fSum := by
  unfold seenPart namePart
  rw [if_pos h.1, if_pos h.2.1, ba_assoc]
theorem catP_le (l : List SeenD) (h : l.length ≤ 40) (k : Nat) : (catP seenPart (l.take k)).size ≤ 1200 := by
  have := catP_size seenPart 30 seenPart_size (l.take k)
  have h2 : (l.take k).length ≤ 40 := by rw [List.length_take]; omega
  have := Nat.mul_le_mul_right 30 h2
  omega
theorem each_good {l : List SeenD} (h : seenP l) : eachB seenPB 40 l = true := by
  unfold eachB
  have h1 := h.1
  rw [decide_eq_true (show wholeN (l.length : Int) by unfold wholeN; omega), decide_eq_true (show (0 : Int) ≤ (l.length : Int) by omega), decide_eq_true (show (l.length : Int) ≤ 40 by omega), Bool.true_and, Bool.true_and, Bool.true_and, List.all_eq_true]
  intro x hx
  obtain ⟨i, hi, rfl⟩ := List.getElem_of_mem hx
  have ho := h.2.1 i hi hi
  unfold seenPB
  rw [nameB_true ho.1, nameB_true ho.2.1]
  rfl

set_option maxHeartbeats 8000000 in
theorem sl9Bytes (a : Option Addr) (c : Nat) (l : List SeenD) (w : World) (hp : seenP l) (hr : Rows seenS Any w a l) :
    Calls Try.prog 88 #[.slice a l.length c] w fun e w' => e = .returned (.string (seenZ l)) ∧ Below w.heap.size w w' := by
  have Hr := Lib.hid hr
  have Hp := Lib.hid hp
  have h40 := hp.1
  have hw : wholeN (l.length : Int) := by unfold wholeN; omega
  have hf : foldZ (l.length : Int) = ((foldZ (l.length : Int)).toNat : Int) := (Int.toNat_of_nonneg (foldZ_bd hw.1 hw.2).1).symm
  have HN := Lib.hid (sl1NumBytes (l.length : Int) _ w hw.1 hw.2 hf)
  have hz0 : strOfNums (vb (foldZ (l.length : Int)).toNat) = numPart (l.length : Int) := by unfold numPart; rw [if_pos hw]; rfl
  have hns := numPart_size (l.length : Int)
  have Hcl := Lib.hid (catP_le l h40)
  rw [hz0] at HN
  have Hfin := Lib.hid (show numPart (l.length : Int) ++ catP seenPart (l.take l.length) = seenZ l by rw [List.take_length]; rfl)
  clear hr hp hw hf hz0
  generalize numPart (l.length : Int) = P0 at *
  go_enter Try.func88, Try.ntmps88
  go_wp2_with fail
  refine HN.out.mono ?_
  rintro e w1 ⟨rfl, hb1⟩
  have B1 := Lib.hid hb1
  clear hb1 HN
  go_wp2_with fail
  go_loopw [11, 3] (fun i s wr => ∃ k : Nat, i = .int .i64 k ∧ k ≤ l.length ∧ s = .string (P0 ++ catP seenPart (l.take k)) ∧ Below w.heap.size w wr) (fun i _ _ => l.length - (intOf i).toNat)
  case atStart => exact ⟨0, rfl, by omega, by simp [catP], B1.out⟩
  case round =>
    obtain ⟨k, rfl, hk, rfl, hbel⟩ := hrel
    by_cases hlt : k < l.length
    · obtain ⟨b, o, cs, rfl, _, hb1, hc1, hat⟩ := Hr.out k hlt
      obtain rfl : cs = [.string l[k].fMod, .string l[k].fName, .int .i64 l[k].fSum] := hat
      have hn : seenS.n = 3 := rfl
      have e0 := (hbel.cell (p := ⟨b, o + k * 3 + 0, none⟩) hb1).trans (hc1 0 (by decide))
      have e1 := (hbel.cell (p := ⟨b, o + k * 3 + 1, none⟩) hb1).trans (hc1 1 (by decide))
      have e2 := (hbel.cell (p := ⟨b, o + k * 3 + 2, none⟩) hb1).trans (hc1 2 (by decide))
      simp at e0 e1 e2
      have hok := Hp.out.2.1 k hlt hlt
      have Hc := Lib.hid (show P0 ++ catP seenPart (l.take (k + 1)) = P0 ++ catP seenPart (l.take k) ++ (nbytes l[k].fMod ++ nbytes l[k].fName ++ wideB l[k].fSum) by rw [take_more hlt, catP_snoc, seenPart_good hok, ← ba_assoc])
      have hcs := Hcl.out k
      have hn1 := hok.1.2.1
      have hn2 := hok.2.1.2.1
      have HA := Lib.hid (fun W => sl1NameBytes l[k].fMod W hn1)
      have HB := Lib.hid (fun W => sl1NameBytes l[k].fName W hn2)
      have HE := Lib.hid (fun W => sEight l[k].fSum W)
      have s1 : (nbytes l[k].fMod).size ≤ 11 := by rw [nbytes_sz]; omega
      have s2 : (nbytes l[k].fName).size ≤ 11 := by rw [nbytes_sz]; omega
      have s3 : (wideB l[k].fSum).size ≤ 8 := Nat.le_of_eq (wideB_size _)
      have hm1 : Hid True := Lib.hid trivial
      have Hbel := Lib.hid hbel
      have hsz := hbel.size
      clear hc1 hbel hok
      generalize nbytes l[k].fMod = A at *
      generalize nbytes l[k].fName = B at *
      generalize wideB l[k].fSum = E at *
      generalize l[k] = t at *
      have hS : (P0 ++ catP seenPart (l.take k)).size ≤ 2000 := by rw [ByteArray.size_append]; omega
      generalize P0 ++ catP seenPart (l.take k) = S at *
      have q1 : ¬ 9223372036854775807 < A.size + B.size := by omega
      have q2 : ¬ 9223372036854775807 < (A ++ B).size + E.size := by rw [ByteArray.size_append]; omega
      have q2' : ¬ 9223372036854775807 < A.size + B.size + E.size := by omega
      have q3 : ¬ 9223372036854775807 < S.size + (A ++ B ++ E).size := by rw [ByteArray.size_append, ByteArray.size_append]; omega
      have q3' : ¬ 9223372036854775807 < S.size + (A.size + B.size + E.size) := by omega
      have X0 := Lib.hid (Box.new wr 123 #[.string t.fMod, .string t.fName, .int .i64 t.fSum])
      have B0 := Lib.hid (Hbel.out.alloc hsz (.cells #[.string t.fMod, .string t.fName, .int .i64 t.fSum] 123))
      clear Hbel
      go_wp2_with fail
      have hq0 : wr.heap.size < (wr.alloc (.cells #[.string t.fMod, .string t.fName, .int .i64 t.fSum] 123)).heap.size := by simp
      generalize wr.alloc (.cells #[.string t.fMod, .string t.fName, .int .i64 t.fSum] 123) = wq at *
      have hbq := B0.out.size
      go_region_held3 (fun w' => w'.cell? ⟨wr.heap.size, 0, none⟩ = some (.string t.fMod) ∧ w'.cell? ⟨wr.heap.size, 1, none⟩ = some (.string t.fName) ∧ w'.cell? ⟨wr.heap.size, 2, none⟩ = some (.int .i64 t.fSum))
        (first
          | exact box3s X3.out
          | exact box3s X2.out
          | exact box3s X1.out
          | exact box3s X0.out
          | go_keep)
        (first
          | (go_at_call 142; have hm2 := hm1; clear hm1; refine (HA.out _).mono ?_; rintro e wa ⟨rfl, hba⟩; have hbd : Below wq.heap.size wq wa := ⟨hba.os, hba.tape, hba.output, hba.size, hba.block⟩; have X1 := Lib.hid (X0.out.below hbd X0.out.lt); have B1 := Lib.hid (B0.out.trans (hbd.mono hbq)); have hb1 := B1.out.size; clear hba hbd)
          | (go_at_call 142; refine (HB.out _).mono ?_; rintro e wb ⟨rfl, hbb⟩; have X2 := Lib.hid (X1.out.below hbb X1.out.lt); have B2 := Lib.hid (B1.out.trans (hbb.mono hb1)); have hb2 := B2.out.size; clear hbb)
          | (go_at_call 143; refine (HE.out _).mono ?_; rintro e wc ⟨rfl, hbc⟩; have X3 := Lib.hid (X2.out.below hbc X2.out.lt); have B3 := Lib.hid (B2.out.trans (hbc.mono hb2)); clear hbc)
          | fail)
      go_wp2_with fail
      exact ⟨⟨k + 1, by congr 1, by omega, by rw [Hc.out], B3.out⟩, by simp [intOf]; omega⟩
    · obtain rfl : k = l.length := by omega
      have Hbel := Lib.hid hbel
      clear hbel
      rw [Hfin.out]
      go_wp2_with fail
      go_ret
      exact ⟨rfl, Hbel.out⟩

set_option maxHeartbeats 4000000 in
theorem sSeenBytes (a : Option Addr) (c : Nat) (l : List SeenD) (w : World) (hl : l.length ≤ 1048576) (hc : l.length ≤ c) (hc2 : c ≤ maxLen) (hs : ∀ t ∈ l, t.fMod.size ≤ maxLen ∧ t.fName.size ≤ maxLen) (hr : Rows seenS Any w a l) :
    Calls Try.prog 34 #[.slice a l.length c] w fun e w' => e = .returned (.tuple #[.string (seenBytes l), .bool (seenB l)]) ∧ Below w.heap.size w w' := by
  have Hr := Lib.hid hr
  have H := Lib.hid (sl9Good a c l w hl hc hc2 hs hr)
  clear hs hr
  go_enter Try.func34, Try.ntmps34
  go_wp2_with fail
  refine H.out.mono ?_
  rintro e w1 ⟨rfl, hb1⟩
  have B1 := Lib.hid hb1
  have R1 := Lib.hid (Hr.out.below hb1)
  clear hb1 H
  by_cases hp : seenP l
  · have hq := seenB_true hp
    have Hz := Lib.hid (seenBytes_yes hp)
    have Hq := Lib.hid hq
    have HL := Lib.hid (sl9Bytes a c l w1 hp R1.out)
    clear hp
    go_wp2_with fail
    refine HL.out.mono ?_
    rintro e w2 ⟨rfl, hb2⟩
    go_wp2_with fail
    go_ret2
    exact ⟨by rw [Hz.out, Hq.out]; rfl, B1.out.trans (hb2.mono B1.out.size)⟩
  · have hq := seenB_false hp
    have Hz := Lib.hid (seenBytes_no hp)
    have Hq := Lib.hid hq
    clear hp
    go_wp2_with fail
    go_ret2
    exact ⟨by rw [Hz.out, Hq.out]; rfl, B1.out⟩
theorem iWholeOk (B g : Nat) (w : World) (bs : ByteArray) (h : Wr B g w bs false) : Calls Try.prog 91 #[.pointer (some ⟨g, 0, none⟩)] w fun e w' => e = .returned (.tuple #[.string bs, .bool true]) ∧ Below w.heap.size w w' := iWhole B g w bs false h
set_option maxHeartbeats 4000000 in
theorem iSeenBytes (a : Option Addr) (c : Nat) (l : List SeenD) (w : World) (hl : l.length ≤ 1048576) (hs : ∀ t ∈ l, t.fMod.size ≤ maxLen ∧ t.fName.size ≤ maxLen) (hr : Rows seenS Any w a l) :
    Calls Try.prog 35 #[.slice a l.length c] w fun e w' => e = .returned (.tuple #[.string (seenBytes l), .bool (seenB l)]) ∧ Below w.heap.size w w' := by
  have hm : (Try.prog.info? 135).map (fun i => (i.zero, i.size)) = some (some (.agg #[.slice none 0 0, .bool false]), 2) := by kernel_rfl
  have Hr := Lib.hid hr
  have Hs := Lib.hid hs
  have H := Lib.hid (iGoodSeen a c l w hl hs hr)
  clear hs hr
  go_enter Try.func35, Try.ntmps35
  go_wp2_with fail
  refine H.out.mono ?_
  rintro e w1 ⟨rfl, hb1⟩
  have B1 := Lib.hid hb1
  have R1 := Lib.hid (Hr.out.below hb1)
  clear hb1 H
  by_cases hp : seenP l
  · have hq := seenB_true hp
    have Hz := Lib.hid (seenBytes_yes hp)
    have Hq := Lib.hid hq
    have h40 := hp.1
    have W0 := Lib.hid (show Wr w1.heap.size w1.heap.size (w1.alloc (.cells #[.slice none 0 0, .bool false] 135)) ByteArray.empty false from ⟨Nat.le_refl _, .slice none 0 0, Box.new _ _ _, World.ownsRow_nil _ _ _ _⟩)
    have HE := Lib.hid (iEachSeen w1 w1.heap.size a c l 40 _ ByteArray.empty false W0.out ((Below.refl _ _).alloc (Nat.le_refl _) _) (by show 0 + 5 + _ + 30 ≤ _; omega) R1.out Hs.out)
    rw [each_good hp, ba_nil, Bool.not_true, Bool.or_false] at HE
    clear hp
    go_wp2_with fail
    refine HE.out.mono ?_
    rintro e w2 ⟨rfl, hW, hb, _⟩
    have W2 := Lib.hid hW
    have B2 := Lib.hid (B1.out.trans (hb.mono B1.out.size))
    clear hW hb HE
    go_wp2_with fail
    refine (iWholeOk _ _ _ _ W2.out).mono ?_
    rintro e w3 ⟨rfl, hb3⟩
    have B3 := Lib.hid (B2.out.trans (hb3.mono B2.out.size))
    clear hb3
    go_wp2_with fail
    go_ret2
    exact ⟨by rw [Hz.out, Hq.out]; rfl, B3.out⟩
  · have hq := seenB_false hp
    have Hz := Lib.hid (seenBytes_no hp)
    have Hq := Lib.hid hq
    clear hp
    go_wp2_with fail
    go_ret2
    exact ⟨by rw [Hz.out, Hq.out]; rfl, B1.out⟩

-- shell: FnExactSeenBytes
set_option maxHeartbeats 2000000 in
theorem law_FnExactSeenBytes (a : Option Addr) (len cap : Nat) (l : List SeenD) (w : World) (hin : CameIn seenS SeenD.came w a len l) :
    Calls Try.prog 6 #[.slice a len cap] w fun e w' => e = .returned (.bool true) ∧ Below w.heap.size w w' := by
  obtain ⟨rfl, hl, hr, hc⟩ := hin
  have Hr := Lib.hid hr
  have Hc := Lib.hid hc
  have Hs := Lib.hid (seen_came hc)
  clear hr hc
  go_enter Try.func6, Try.ntmps6
  go_wp2_with fail
  refine (lSzSeenS a cap l _ 1048576 (by omega) (by omega) hl Hc.out Hr.out).mono ?_
  rintro e w1 ⟨r, rfl, hs, hb1⟩
  have B1 := Lib.hid hb1
  clear hb1
  rcases hs with rfl | ⟨h0, h1⟩
  · go_wp2_with fail
    go_ret
    exact ⟨rfl, B1.out⟩
  have hl2 := seen_wt (l := l) (by omega)
  clear h1
  go_wp2_with fail
  refine (lToSeenS a cap l _ hl2 (Hr.out.below B1.out)).mono ?_
  rintro e w2 ⟨rfl, hr2, hb2⟩
  have R2 := Lib.hid hr2.any
  have B2 := Lib.hid (B1.out.trans (hb2.mono B1.out.size))
  clear hr2 hb2
  go_wp2_with fail
  refine (sSeenBytes _ _ l _ hl2 (Nat.le_refl _) hl Hs.out R2.out).mono ?_
  rintro e w3 ⟨rfl, hb3⟩
  have B3 := Lib.hid (B2.out.trans (hb3.mono B2.out.size))
  clear hb3
  go_wp2_with fail
  refine (lToSeenS a cap l _ hl2 (Hr.out.below B3.out)).mono ?_
  rintro e w4 ⟨rfl, hr4, hb4⟩
  have R4 := Lib.hid hr4.any
  have B4 := Lib.hid (B3.out.trans (hb4.mono B3.out.size))
  clear hr4 hb4
  go_wp2_with fail
  refine (iSeenBytes _ _ l _ hl2 Hs.out R4.out).mono ?_
  rintro e w5 ⟨rfl, hb5⟩
  have R5 := Lib.hid (R4.out.below hb5)
  have B5 := Lib.hid (B4.out.trans (hb5.mono B4.out.size))
  clear hb5
  generalize seenB l = q at *
  generalize seenBytes l = z at *
  have hzz : (z.toList == z.toList) = true := by simp
  cases q
  all_goals
    go_wp2_with fail
    refine (lToSeenS a cap l _ hl2 (Hr.out.below B5.out)).mono ?_
    rintro e w6 ⟨rfl, hr6, hb6⟩
    have R6 := Lib.hid hr6.any
    have R5' := Lib.hid (R5.out.below hb6)
    have B6 := Lib.hid (B5.out.trans (hb6.mono B5.out.size))
    clear hr6 hb6
    go_wp2_with fail
    refine (lEqSeenS _ _ _ _ l _ hl2 R5'.out R6.out).mono ?_
    rintro e w7 ⟨rfl, hb7⟩
    go_wp2_with fail
    go_ret
    exact ⟨rfl, B6.out.trans (hb7.mono B6.out.size)⟩
end Go.Proofs.Ytjbnabjfeepbeaa
