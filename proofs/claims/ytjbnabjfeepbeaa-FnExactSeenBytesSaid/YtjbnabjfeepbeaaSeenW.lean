
/-
  What is proved: contracts of the program's wideBytes, writeSeen, writeEach of what was seen and SeenBytes, and of the model's l9Eight, l9Bytes and SeenBytes. No condition beside what each theorem states.
-/
import Derived.Test.YtjbnabjfeepbeaaSeenG
import Derived.Test.YtjbnabjfeepbeaaWriteA
namespace Go.Proofs.Ytjbnabjfeepbeaa
open Go.ChangeShapes Go.WideShapes Go.ChangeAt Go.RowKit
set_option maxRecDepth 100000

/-- The byte of a number at a place, the lowest one at 0. -/
def wb (n : Int) (k : Nat) : Int := n / 2 ^ (8 * k) % 256
def wideL (n : Int) : List Int := [wb n 7, wb n 6, wb n 5, wb n 4, wb n 3, wb n 2, wb n 1, wb n 0]
def wideB (n : Int) : ByteArray := strOfNums (wideL n)
theorem wideB_size (n : Int) : (wideB n).size = 8 := by unfold wideB; rw [strOfNums_size]; rfl
def roomC (n : Int) (k i : Nat) : Value := .int .u8 (if 7 - i < k then wb n (7 - i) else 0)
def roomA (n : Int) (k : Nat) : Array Value := #[roomC n k 0, roomC n k 1, roomC n k 2, roomC n k 3, roomC n k 4, roomC n k 5, roomC n k 6, roomC n k 7]
theorem roomA_set (n : Int) (k : Nat) (hk : k < 8) : (roomA n k).setIfInBounds (7 - k) (.int .u8 (wb n k)) = roomA n (k + 1) := by
  match k, hk with
  | 0, _ | 1, _ | 2, _ | 3, _ | 4, _ | 5, _ | 6, _ | 7, _ => rfl
theorem roomA_all (n : Int) : roomA n 8 = ((wideL n).map (Value.int .u8)).toArray := rfl
theorem roomA_none (n : Int) : roomA n 0 = #[.int .u8 0, .int .u8 0, .int .u8 0, .int .u8 0, .int .u8 0, .int .u8 0, .int .u8 0, .int .u8 0] := rfl

set_option maxHeartbeats 4000000 in
theorem iWide (n : Int) (w : World) : Calls Try.prog 147 #[.int .i64 n] w fun e w' => e = .returned (.string (wideB n)) ∧ Below w.heap.size w w' := by
  have hwb : ∀ k, n / 2 ^ (8 * k) % 256 = wb n k := fun _ => rfl
  have Hwb := Lib.hid hwb
  clear hwb
  go_enter Try.func147, Try.ntmps147
  go_wp2_with fail
  go_loopw [5] (fun i wr => ∃ k : Nat, i = .int .i64 k ∧ k ≤ 8 ∧ Box wr w.heap.size 214 (roomA n k) ∧ Below w.heap.size w wr) (fun i _ => 8 - (intOf i).toNat)
  case atStart => exact ⟨0, rfl, by omega, Box.new w _ _, (Below.refl _ _).alloc (Nat.le_refl _) _⟩
  case round =>
    obtain ⟨k, rfl, hk, hx, hbel⟩ := hrel
    by_cases hlt : k < 8
    · have f := hx.free (7 - k)
      obtain ⟨x0, c⟩ := hx.some (i := 7 - k) (by show 7 - k < 8; omega)
      have X := Lib.hid hx
      have Bl := Lib.hid hbel
      have hsz := hbel.size
      clear hx hbel
      go_wp2_with fail
      exact ⟨⟨k + 1, by congr 1, by omega, by rw [← roomA_set n k hlt]; exact X.out.set _ _, Bl.out.setCell (Nat.le_refl _) _⟩, by simp [intOf]; omega⟩
    · obtain rfl : k = 8 := by omega
      rw [roomA_all] at hx
      have hcv : (convert 22 9 (.slice (some ⟨w.heap.size, 0, none⟩) 8 8)).run Try.prog wr = .ok (.string (wideB n)) wr :=
        run_convert_bytes_arg wr 22 5 Try.underlying22 Try.underlying5 w.heap.size 0 8 8 (wideL n) rfl (fun i hi => by
          have hi' : i < (wideL n).length := hi
          rw [Nat.zero_add, hx.cell]
          simp [List.getD, List.getElem?_eq_getElem hi']) 9 Try.underlying9
      clear hx
      go_wp2_with fail
      go_ret
      exact ⟨rfl, hbel⟩
theorem wide_next (n : Int) (k : Nat) (hk : k < 8) : (((wideL n).map (Value.int .u8)).take k) ++ [.int .u8 (wb n (7 - k))] = ((wideL n).take (k + 1)).map (Value.int .u8) := by
  match k, hk with
  | 0, _ | 1, _ | 2, _ | 3, _ | 4, _ | 5, _ | 6, _ | 7, _ => rfl
set_option maxHeartbeats 4000000 in
theorem sEight (n : Int) (w : World) : Calls Try.prog 143 #[.int .i64 n] w fun e w' => e = .returned (.string (wideB n)) ∧ Below w.heap.size w w' := by
  obtain ⟨i0, hi0, hz0, hz1, hz2⟩ := info_parts info8
  go_enter Try.func143, Try.ntmps143
  go_wp2_with fail
  go_loopw [4, 3] (fun i v wr => ∃ (k : Nat), i = .int .i64 (7 - (k : Int)) ∧ k ≤ 8 ∧ wr.ownsRow w.heap.size 5 1 v k (((wideL n).take k).map (Value.int .u8)) ∧ Below w.heap.size w wr) (fun i _ _ => (intOf i + 1).toNat)
  case atStart => exact ⟨0, rfl, by omega, World.ownsRow_nil _ _ _ _, Below.refl _ _⟩
  case round =>
    obtain ⟨k, rfl, hk, hown, hbel⟩ := hrel
    have Hown := Lib.hid hown
    have Hbel := Lib.hid hbel
    have hsz := hbel.size
    clear hbel hown
    by_cases hlt : k < 8
    · go_wp2_with (at_builtin; refine wpList_push rfl _ _ 22 rfl w.heap.size 5 i0 (.int .u8 0) 1 Try.underlying22 hi0 hz0 hz1 hz2 rfl _ _ _ _ rfl Hown.out _ rfl rfl ?c1 ?c2 ?c3 ?_)
      case c1 => unfold maxLen; omega
      case c2 => omega
      case c3 => exact hsz
      intro v' w1 hown1 hg1
      have B1 := Lib.hid (Hbel.out.grown hg1 hsz (fun q hq => (World.ownsRow.lt Hown.out q hq).1))
      go_wp2_with fail
      refine ⟨⟨k + 1, by congr 1; omega, by omega, ?_, B1.out⟩, by simp [intOf]; omega⟩
      rw [← wide_next n k hlt]
      exact hown1
    · obtain rfl : k = 8 := by omega
      have kc := convOwn (l := wideL n) (show _ from Hown.out)
      obtain ⟨va, vc, rfl⟩ := row_form Hown.out
      go_wp2_with fail
      go_ret
      exact ⟨rfl, Hbel.out⟩

/-! The program's writer. -/
noncomputable def seenPart (t : SeenD) : ByteArray := namePart t.fMod ++ (namePart t.fName ++ wideB t.fSum)
noncomputable def seenPB (t : SeenD) : Bool := nameB t.fMod && nameB t.fName
theorem seenPart_size (t : SeenD) : (seenPart t).size ≤ 30 := by
  unfold seenPart
  simp only [ByteArray.size_append, wideB_size]
  have := namePart_size t.fMod
  have := namePart_size t.fName
  omega
set_option maxHeartbeats 8000000 in
theorem iWriteSeen (B g : Nat) (t : SeenD) (w : World) (bs : ByteArray) (sp : Bool) (h : Wr B g w bs sp) (hs : bs.size + 30 ≤ 100000000) (hn1 : t.fMod.size ≤ maxLen) (hn2 : t.fName.size ≤ maxLen) :
    Calls Try.prog 90 #[.pointer (some ⟨g, 0, none⟩), .agg #[.string t.fMod, .string t.fName, .int .i64 t.fSum]] w fun e w' => e = .returned (.tuple #[]) ∧ Wr B g w' (bs ++ seenPart t) (sp || !seenPB t) ∧ Below B w w' ∧ Kp g w w' := by
  have hl := h.lt
  have H0 := Lib.hid (h.below ((Below.refl w.heap.size w).alloc (Nat.le_refl _) (.cells #[.string t.fMod, .string t.fName, .int .i64 t.fSum] 123)))
  have X0 := Lib.hid (Box.new w 123 #[.string t.fMod, .string t.fName, .int .i64 t.fSum])
  have B0 := Lib.hid ((Below.refl B w).alloc (by omega) (.cells #[.string t.fMod, .string t.fName, .int .i64 t.fSum] 123))
  have K0 := Lib.hid (Kp.of_below (g := g) ((Below.refl w.heap.size w).alloc (Nat.le_refl _) (.cells #[.string t.fMod, .string t.fName, .int .i64 t.fSum] 123)))
  have z1 := namePart_size t.fMod
  have z2 := namePart_size t.fName
  have z3 := wideB_size t.fSum
  have HN1 := Lib.hid (fun W => iName t.fMod W hn1)
  have HN2 := Lib.hid (fun W => iName t.fName W hn2)
  clear h
  have Fin := Lib.hid (show ∀ W, Wr B g W (bs ++ namePart t.fMod ++ namePart t.fName ++ wideB t.fSum) (((sp || !nameB t.fMod) || !nameB t.fName) || !true) → Wr B g W (bs ++ seenPart t) (sp || !seenPB t) from fun W h => by
    unfold seenPart seenPB
    rw [ba_assoc, ba_assoc] at h
    rw [show (((sp || !nameB t.fMod) || !nameB t.fName) || !true) = (sp || !(nameB t.fMod && nameB t.fName)) by rw [Bool.not_true, Bool.or_false, or_and]] at h
    exact h)
  obtain ⟨md, nm, sm⟩ := t
  dsimp only at *
  go_enter Try.func90, Try.ntmps90
  go_wp2_with fail
  refine (HN1.out _).mono ?_
  rintro e w1 ⟨rfl, hb1⟩
  have H1 := Lib.hid (H0.out.below hb1)
  have X1 := Lib.hid (X0.out.below hb1 (Box.lt X0.out))
  have B1 := Lib.hid (B0.out.trans (hb1.mono (by simp; omega)))
  have K1 := Lib.hid (K0.out.trans (Kp.of_below hb1))
  clear hb1
  go_wp2_with fail
  refine (iPut B g (namePart md) (nameB md) _ _ _ H1.out (by omega)).mono ?_
  rintro e w2 ⟨rfl, hW, hb, hk⟩
  have H2 := Lib.hid hW
  have X2 := Lib.hid (hk.box X1.out (by omega) (by decide))
  have B2 := Lib.hid (B1.out.trans hb)
  have K2 := Lib.hid (K1.out.trans hk)
  clear hW hb hk
  have x0 : _ = some (Value.string md) := X2.out.cell 0
  have x1 : _ = some (Value.string nm) := X2.out.cell 1
  have x2 : _ = some (Value.int .i64 sm) := X2.out.cell 2
  go_wp2_with fail
  refine (HN2.out _).mono ?_
  clear x0 x1 x2
  rintro e w3 ⟨rfl, hb1⟩
  have H3 := Lib.hid (H2.out.below hb1)
  have X3 := Lib.hid (X2.out.below hb1 (Box.lt X2.out))
  have B3 := Lib.hid (B2.out.trans (hb1.mono (Nat.le_trans H2.out.lt.1 (Nat.le_of_lt H2.out.lt.2))))
  have K3 := Lib.hid (K2.out.trans (Kp.of_below (g := g) hb1))
  clear hb1
  go_wp2_with fail
  refine (iPut B g (namePart nm) (nameB nm) _ _ _ H3.out (by simp only [ByteArray.size_append]; omega)).mono ?_
  rintro e w4 ⟨rfl, hW, hb, hk⟩
  have H4 := Lib.hid hW
  have X4 := Lib.hid (hk.box X3.out (by omega) (by decide))
  have B4 := Lib.hid (B3.out.trans hb)
  have K4 := Lib.hid (K3.out.trans hk)
  clear hW hb hk
  have x0 : _ = some (Value.string md) := X4.out.cell 0
  have x1 : _ = some (Value.string nm) := X4.out.cell 1
  have x2 : _ = some (Value.int .i64 sm) := X4.out.cell 2
  go_wp2_with fail
  refine (iWide sm _).mono ?_
  clear x0 x1 x2
  rintro e w5 ⟨rfl, hb1⟩
  have H5 := Lib.hid (H4.out.below hb1)
  have B5 := Lib.hid (B4.out.trans (hb1.mono (Nat.le_trans H4.out.lt.1 (Nat.le_of_lt H4.out.lt.2))))
  have K5 := Lib.hid (K4.out.trans (Kp.of_below (g := g) hb1))
  clear hb1
  go_wp2_with fail
  refine (iPut B g (wideB sm) true _ _ _ H5.out (by simp only [ByteArray.size_append]; omega)).mono ?_
  rintro e w6 ⟨rfl, hW, hb, hk⟩
  have H6 := Lib.hid hW
  have B6 := Lib.hid (B5.out.trans hb)
  have K6 := Lib.hid (K5.out.trans hk)
  clear hW hb hk
  go_wp2_with fail
  go_end0
  exact ⟨rfl, Fin.out _ H6.out, B6.out, K6.out⟩
set_option maxHeartbeats 16000000 in
theorem iEachSeen (wB : World) (g : Nat) (a : Option Addr) (c : Nat) (l : List SeenD) (most : Int) (w : World) (bs : ByteArray) (sp : Bool) (h : Wr wB.heap.size g w bs sp) (hb0 : Below wB.heap.size wB w) (hs : bs.size + 5 + 30 * l.length + 30 ≤ 100000000) (hr : Rows seenS Any wB a l) (hn : ∀ t ∈ l, t.fMod.size ≤ maxLen ∧ t.fName.size ≤ maxLen) :
    Calls Try.prog 89 #[.pointer (some ⟨g, 0, none⟩), .slice a l.length c, .int .i64 most, .func (.func 90) #[] #[]] w fun e w' => e = .returned (.tuple #[]) ∧ Wr wB.heap.size g w' (bs ++ eachPart seenPart l) (sp || !eachB seenPB most l) ∧ Below wB.heap.size wB w' ∧ Kp g w w' := by
  have hlt := h.lt
  have z1 := numPart_size (l.length : Int)
  have HP := Lib.hid (iPutNumber wB.heap.size g (l.length : Int) 0 most _ w bs sp h (by omega) rfl)
  have Hr := Lib.hid hr
  have Hn := Lib.hid hn
  have Hb0 := Lib.hid hb0
  have Fin := Lib.hid (show ∀ W, Wr wB.heap.size g W (bs ++ numPart (l.length : Int) ++ catP seenPart (l.take l.length)) ((sp || !(decide (wholeN (l.length : Int)) && decide ((0 : Int) ≤ (l.length : Int)) && decide ((l.length : Int) ≤ most))) || !(l.take l.length).all seenPB) → Wr wB.heap.size g W (bs ++ eachPart seenPart l) (sp || !eachB seenPB most l) from fun W h => by
    unfold eachPart eachB
    rw [List.take_length, ba_assoc, or_and] at h
    exact h)
  have hB := Nat.le_trans hlt.1 (Nat.le_of_lt hlt.2)
  clear h hr hn hb0
  generalize (sp || !(decide (wholeN (l.length : Int)) && decide ((0 : Int) ≤ (l.length : Int)) && decide ((l.length : Int) ≤ most))) = sp1 at *
  have hsz1 : (bs ++ numPart (l.length : Int)).size ≤ bs.size + 5 := by rw [ByteArray.size_append]; omega
  generalize bs ++ numPart (l.length : Int) = bs1 at *
  go_enter Try.func89, Try.ntmps89
  go_wp2_with fail
  refine HP.out.mono ?_
  rintro e w1 ⟨rfl, hW, hb, hk⟩
  have H1 := Lib.hid hW
  have B1 := Lib.hid (Hb0.out.trans hb)
  have K1 := Lib.hid hk
  clear hW hb hk HP
  go_wp2_with fail
  go_loopw [17] (fun i wr => ∃ k : Nat, i = .int .i64 k ∧ k ≤ l.length ∧ Wr wB.heap.size g wr (bs1 ++ catP seenPart (l.take k)) (sp1 || !(l.take k).all seenPB) ∧ Below wB.heap.size wB wr ∧ Kp g w wr) (fun i _ => l.length - (intOf i).toNat)
  case atStart => exact ⟨0, rfl, by omega, by simpa [catP, ba_empty] using H1.out, B1.out, K1.out⟩
  case round =>
    obtain ⟨k, rfl, hk, hw, hbel, hkp⟩ := hrel
    have hsr := hbel.size
    have hglt := hw.lt
    have H := Lib.hid hw
    have Bl := Lib.hid hbel
    have K := Lib.hid hkp
    clear hw hkp
    by_cases hlt : k < l.length
    · obtain ⟨b, o, cs, rfl, _, hb1, hc1, hat⟩ := Hr.out k hlt
      obtain rfl : cs = [.string l[k].fMod, .string l[k].fName, .int .i64 l[k].fSum] := hat
      have e0 := (hbel.cell (p := ⟨b, o + k * 3 + 0, none⟩) hb1).trans (hc1 0 (by decide))
      have e1 := (hbel.cell (p := ⟨b, o + k * 3 + 1, none⟩) hb1).trans (hc1 1 (by decide))
      have e2 := (hbel.cell (p := ⟨b, o + k * 3 + 2, none⟩) hb1).trans (hc1 2 (by decide))
      simp at e0 e1 e2
      have hnk := Hn.out _ (List.getElem_mem hlt)
      have Hc := Lib.hid (show catP seenPart (l.take (k + 1)) = catP seenPart (l.take k) ++ seenPart l[k] by rw [take_more hlt, catP_snoc])
      have Ha := Lib.hid (all_more seenPB hlt)
      have hcs : (catP seenPart (l.take k)).size ≤ k * 30 := Nat.le_trans (catP_size seenPart 30 seenPart_size _) (by rw [List.length_take]; exact Nat.mul_le_mul_right _ (Nat.min_le_left _ _))
      clear hbel hc1
      generalize l[k] = t at *
      have HA := Lib.hid (H.out.below ((Below.refl _ _).alloc (Nat.le_refl _) (.cells #[.string t.fMod, .string t.fName, .int .i64 t.fSum] 123)))
      have BA := Lib.hid (Bl.out.alloc hsr (.cells #[.string t.fMod, .string t.fName, .int .i64 t.fSum] 123))
      have KA := Lib.hid (K.out.alloc (.cells #[.string t.fMod, .string t.fName, .int .i64 t.fSum] 123))
      go_wp2_with fail
      refine (iWriteSeen wB.heap.size g t _ _ _ HA.out (by rw [ByteArray.size_append]; omega) hnk.1 hnk.2).mono ?_
      rintro e w2 ⟨rfl, hW, hb, hk2⟩
      have H2 := Lib.hid (show Wr wB.heap.size g w2 (bs1 ++ catP seenPart (l.take (k + 1))) (sp1 || !(l.take (k + 1)).all seenPB) by
        rw [Hc.out, Ha.out, ← ba_assoc, ← or_and]
        exact hW)
      have B2 := Lib.hid (BA.out.trans hb)
      have K2 := Lib.hid (KA.out.trans hk2)
      clear hW hb hk2
      go_wp2_with fail
      exact ⟨⟨k + 1, by congr 1, by omega, H2.out, B2.out, K2.out⟩, by simp [intOf]; omega⟩
    · obtain rfl : k = l.length := by omega
      clear hbel
      go_wp2_with fail
      go_end0
      exact ⟨rfl, Fin.out _ H.out, Bl.out, K.out⟩
end Go.Proofs.Ytjbnabjfeepbeaa
