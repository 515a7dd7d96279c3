
/-
  What is proved: contracts of the program's writeParam, writeField, and of writeEach on params and on fields. No condition beside what each theorem states.
-/
import Derived.Test.YtjhfjcindgaekaaWriter
import Derived.Test.YtjhfjcindgaekaaStParam
import Derived.Test.YtjhfjcindgaekaaStField
namespace Go.Proofs.Ytjhfjcindgaekaa
open Go.ChangeShapes Go.WideShapes Go.ChangeAt Go.RowKit
set_option maxRecDepth 100000

theorem ba_assoc (a b c : ByteArray) : a ++ b ++ c = a ++ (b ++ c) := by
  apply ByteArray.ext
  simp [Array.append_assoc]
theorem ba_empty (a : ByteArray) : a ++ ByteArray.empty = a := by
  apply ByteArray.ext
  simp
theorem or_and3 (s a b c : Bool) : (((s || !a) || !b) || !c) = (s || !(a && (b && c))) := by cases s <;> cases a <;> cases b <;> cases c <;> rfl
theorem or_and (s a b : Bool) : ((s || !a) || !b) = (s || !(a && b)) := by cases s <;> cases a <;> cases b <;> rfl
noncomputable def paramPart (t : ParamD) : ByteArray := namePart t.fName ++ (byteB (if t.fByVar then 1 else 0) ++ numPart t.fType)
noncomputable def paramB (t : ParamD) : Bool := nameB t.fName && (decide (wholeN t.fType) && decide (0 ≤ t.fType) && decide (t.fType ≤ 24))
noncomputable def fieldPart (t : FieldD) : ByteArray := byteB t.fMark ++ (mayPart t.fName ++ numPart t.fType)
noncomputable def fieldB (t : FieldD) : Bool := (decide (0 ≤ t.fMark) && decide (t.fMark ≤ 2)) && (mayB t.fName && (decide (wholeN t.fType) && decide (0 ≤ t.fType) && decide (t.fType ≤ 24)))
theorem byteB_size (n : Int) : (byteB n).size = 1 := by unfold byteB; rw [strOfNums_size]; rfl
theorem paramPart_size (t : ParamD) : (paramPart t).size ≤ 17 := by
  unfold paramPart
  simp only [ByteArray.size_append, byteB_size]
  have := namePart_size t.fName
  have := numPart_size t.fType
  omega
theorem fieldPart_size (t : FieldD) : (fieldPart t).size ≤ 17 := by
  unfold fieldPart
  simp only [ByteArray.size_append, byteB_size]
  have := mayPart_size t.fName
  have := numPart_size t.fType
  omega

def bvZ : Bool → Int
  | true => 1
  | false => 0
theorem iByVar (nm : ByteArray) (bv : Bool) (ty : Int) (w : World) : Calls Try.prog 54 #[.agg #[.string nm, .bool bv, .int .i64 ty]] w fun e w' => e = .returned (.int .i64 (bvZ bv)) ∧ Below w.heap.size w w' := by
  cases bv
  all_goals
    go_enter Try.func54, Try.ntmps54
    go_wp2_with fail
    go_ret
    exact ⟨rfl, (Below.refl _ _).alloc (Nat.le_refl _) _⟩
set_option maxHeartbeats 8000000 in
theorem iWriteParam (B g : Nat) (t : ParamD) (w : World) (bs : ByteArray) (sp : Bool) (h : Wr B g w bs sp) (hs : bs.size + 17 ≤ 100000000) (hn : t.fName.size ≤ maxLen) :
    Calls Try.prog 48 #[.pointer (some ⟨g, 0, none⟩), .agg #[.string t.fName, .bool t.fByVar, .int .i64 t.fType]] w fun e w' => e = .returned (.tuple #[]) ∧ Wr B g w' (bs ++ paramPart t) (sp || !paramB t) ∧ Below B w w' ∧ Kp g w w' := by
  have hl := h.lt
  have H0 := Lib.hid (h.below ((Below.refl w.heap.size w).alloc (Nat.le_refl _) (.cells #[.string t.fName, .bool t.fByVar, .int .i64 t.fType] 79)))
  have X0 := Lib.hid (Box.new w 79 #[.string t.fName, .bool t.fByVar, .int .i64 t.fType])
  have B0 := Lib.hid ((Below.refl B w).alloc (by omega) (.cells #[.string t.fName, .bool t.fByVar, .int .i64 t.fType] 79))
  have K0 := Lib.hid (Kp.of_below (g := g) ((Below.refl w.heap.size w).alloc (Nat.le_refl _) (.cells #[.string t.fName, .bool t.fByVar, .int .i64 t.fType] 79)))
  have z1 := namePart_size t.fName
  have z2 := numPart_size t.fType
  have HN := Lib.hid (fun W => iName t.fName W hn)
  clear h
  have Fin := Lib.hid (show ∀ W, Wr B g W (bs ++ namePart t.fName ++ byteB (if t.fByVar then 1 else 0) ++ numPart t.fType) (((sp || !nameB t.fName) || !true) || !(decide (wholeN t.fType) && decide (0 ≤ t.fType) && decide (t.fType ≤ 24))) → Wr B g W (bs ++ paramPart t) (sp || !paramB t) from fun W h => by
    unfold paramPart paramB
    rw [ba_assoc, ba_assoc] at h
    rw [show (((sp || !nameB t.fName) || !true) || !(decide (wholeN t.fType) && decide (0 ≤ t.fType) && decide (t.fType ≤ 24))) = (sp || !(nameB t.fName && (decide (wholeN t.fType) && decide (0 ≤ t.fType) && decide (t.fType ≤ 24)))) by rw [Bool.not_true, Bool.or_false, or_and]] at h
    exact h)
  obtain ⟨nm, bv, ty⟩ := t
  dsimp only at *
  have hq3 := (rfl : (decide (wholeN ty) && decide (0 ≤ ty) && decide (ty ≤ 24)) = _)
  cases bv
  all_goals
    go_enter Try.func48, Try.ntmps48
    go_wp2_with fail
    refine (HN.out _).mono ?_
    rintro e w1 ⟨rfl, hb1⟩
    have H1 := Lib.hid (H0.out.below hb1)
    have X1 := Lib.hid (X0.out.below hb1 (Box.lt X0.out))
    have B1 := Lib.hid (B0.out.trans (hb1.mono (by simp; omega)))
    have K1 := Lib.hid (K0.out.trans (Kp.of_below hb1))
    clear hb1
    go_wp2_with fail
    refine (iPut B g (namePart nm) (nameB nm) _ _ _ H1.out (by omega)).mono ?_
    rintro e w2 ⟨rfl, hW, hb, hk⟩
    have H2 := Lib.hid hW
    have X2 := Lib.hid (hk.box X1.out (by omega) (by decide))
    have B2 := Lib.hid (B1.out.trans hb)
    have K2 := Lib.hid (K1.out.trans hk)
    clear hW hb hk
    have x0 : _ = some (Value.string nm) := X2.out.cell 0
    have x1 : _ = some (Value.bool _) := X2.out.cell 1
    have x2 : _ = some (Value.int .i64 ty) := X2.out.cell 2
    go_wp2_with fail
    refine (iByVar nm _ ty _).mono ?_
    rintro e v2 ⟨rfl, hbv⟩
    have G2 := Lib.hid (H2.out.below hbv)
    have Y2 := Lib.hid (X2.out.below hbv (Box.lt X2.out))
    have D2 := Lib.hid (B2.out.trans (hbv.mono (Nat.le_trans H2.out.lt.1 (Nat.le_of_lt H2.out.lt.2))))
    have E2 := Lib.hid (K2.out.trans (Kp.of_below (g := g) hbv))
    clear hbv
    go_wp2_with fail
    refine (iPutByte B g _ 0 1 true _ _ _ G2.out (by first | omega | (simp only [ByteArray.size_append]; omega) | (simp only [ByteArray.size_append, byteB_size]; omega)) rfl).mono ?_
    clear x0 x1 x2
    rintro e w3 ⟨rfl, hW, hb, hk⟩
    have H3 := Lib.hid hW
    have X3 := Lib.hid (hk.box Y2.out (by omega) (by decide))
    have B3 := Lib.hid (D2.out.trans hb)
    have K3 := Lib.hid (E2.out.trans hk)
    clear hW hb hk
    have x0 : _ = some (Value.string nm) := X3.out.cell 0
    have x1 : _ = some (Value.bool _) := X3.out.cell 1
    have x2 : _ = some (Value.int .i64 ty) := X3.out.cell 2
    go_wp2_with fail
    refine (iPutNumber B g ty 0 24 _ _ _ _ H3.out (by first | omega | (simp only [ByteArray.size_append]; omega) | (simp only [ByteArray.size_append, byteB_size]; omega)) rfl).mono ?_
    clear x0 x1 x2
    rintro e w4 ⟨rfl, hW, hb, hk⟩
    have H4 := Lib.hid hW
    have X4 := Lib.hid (hk.box X3.out (by omega) (by decide))
    have B4 := Lib.hid (B3.out.trans hb)
    have K4 := Lib.hid (K3.out.trans hk)
    clear hW hb hk
    go_wp2_with fail
    go_end0
    exact ⟨rfl, Fin.out _ H4.out, B4.out, K4.out⟩

set_option maxHeartbeats 8000000 in
theorem iWriteField (B g : Nat) (t : FieldD) (w : World) (bs : ByteArray) (sp : Bool) (h : Wr B g w bs sp) (hs : bs.size + 17 ≤ 100000000) (hn : t.fName.size ≤ maxLen) :
    Calls Try.prog 38 #[.pointer (some ⟨g, 0, none⟩), .agg #[.string t.fName, .int .i64 t.fMark, .int .i64 t.fType]] w fun e w' => e = .returned (.tuple #[]) ∧ Wr B g w' (bs ++ fieldPart t) (sp || !fieldB t) ∧ Below B w w' ∧ Kp g w w' := by
  have hl := h.lt
  have H0 := Lib.hid (h.below ((Below.refl w.heap.size w).alloc (Nat.le_refl _) (.cells #[.string t.fName, .int .i64 t.fMark, .int .i64 t.fType] 65)))
  have X0 := Lib.hid (Box.new w 65 #[.string t.fName, .int .i64 t.fMark, .int .i64 t.fType])
  have B0 := Lib.hid ((Below.refl B w).alloc (by omega) (.cells #[.string t.fName, .int .i64 t.fMark, .int .i64 t.fType] 65))
  have K0 := Lib.hid (Kp.of_below (g := g) ((Below.refl w.heap.size w).alloc (Nat.le_refl _) (.cells #[.string t.fName, .int .i64 t.fMark, .int .i64 t.fType] 65)))
  have z1 := mayPart_size t.fName
  have z2 := numPart_size t.fType
  clear h
  have Fin := Lib.hid (show ∀ W, Wr B g W (bs ++ byteB t.fMark ++ mayPart t.fName ++ numPart t.fType) (((sp || !(decide (0 ≤ t.fMark) && decide (t.fMark ≤ 2))) || !mayB t.fName) || !(decide (wholeN t.fType) && decide (0 ≤ t.fType) && decide (t.fType ≤ 24))) → Wr B g W (bs ++ fieldPart t) (sp || !fieldB t) from fun W h => by
    unfold fieldPart fieldB
    rw [ba_assoc, ba_assoc] at h
    rw [or_and3] at h
    exact h)
  obtain ⟨nm, mk, ty⟩ := t
  dsimp only at *
  all_goals
    go_enter Try.func38, Try.ntmps38
    have x0 : _ = some (Value.string nm) := X0.out.cell 0
    have x1 : _ = some (Value.int .i64 mk) := X0.out.cell 1
    have x2 : _ = some (Value.int .i64 ty) := X0.out.cell 2
    go_wp2_with fail
    refine (iPutByte B g mk 0 2 _ _ _ _ H0.out (by omega) rfl).mono ?_
    clear x0 x1 x2
    rintro e w1 ⟨rfl, hW, hb, hk⟩
    have H1 := Lib.hid hW
    have X1 := Lib.hid (hk.box X0.out (by omega) (by decide))
    have B1 := Lib.hid (B0.out.trans hb)
    have K1 := Lib.hid (K0.out.trans hk)
    clear hW hb hk
    have x0 : _ = some (Value.string nm) := X1.out.cell 0
    have x1 : _ = some (Value.int .i64 mk) := X1.out.cell 1
    have x2 : _ = some (Value.int .i64 ty) := X1.out.cell 2
    go_wp2_with fail
    refine (iPutMaybe B g nm _ _ _ _ H1.out (by first | omega | (simp only [ByteArray.size_append]; omega) | (simp only [ByteArray.size_append, byteB_size]; omega)) hn rfl).mono ?_
    clear x0 x1 x2
    rintro e w2 ⟨rfl, hW, hb, hk⟩
    have H2 := Lib.hid hW
    have X2 := Lib.hid (hk.box X1.out (by omega) (by decide))
    have B2 := Lib.hid (B1.out.trans hb)
    have K2 := Lib.hid (K1.out.trans hk)
    clear hW hb hk
    have x0 : _ = some (Value.string nm) := X2.out.cell 0
    have x1 : _ = some (Value.int .i64 mk) := X2.out.cell 1
    have x2 : _ = some (Value.int .i64 ty) := X2.out.cell 2
    go_wp2_with fail
    refine (iPutNumber B g ty 0 24 _ _ _ _ H2.out (by first | omega | (simp only [ByteArray.size_append]; omega) | (simp only [ByteArray.size_append, byteB_size]; omega)) rfl).mono ?_
    clear x0 x1 x2
    rintro e w3 ⟨rfl, hW, hb, hk⟩
    have H3 := Lib.hid hW
    have X3 := Lib.hid (hk.box X2.out (by omega) (by decide))
    have B3 := Lib.hid (B2.out.trans hb)
    have K3 := Lib.hid (K2.out.trans hk)
    clear hW hb hk
    go_wp2_with fail
    go_end0
    exact ⟨rfl, Fin.out _ H3.out, B3.out, K3.out⟩

/-- Parts one behind another. -/
noncomputable def catP {T : Type} (f : T → ByteArray) : List T → ByteArray
  | [] => ByteArray.empty
  | x :: l => f x ++ catP f l
theorem ba_nil (a : ByteArray) : ByteArray.empty ++ a = a := by
  apply ByteArray.ext
  simp
theorem catP_snoc {T : Type} (f : T → ByteArray) : ∀ (l : List T) (x : T), catP f (l ++ [x]) = catP f l ++ f x
  | [], x => by show f x ++ ByteArray.empty = ByteArray.empty ++ f x; rw [ba_empty, ba_nil]
  | y :: l, x => by show f y ++ catP f (l ++ [x]) = f y ++ catP f l ++ f x; rw [catP_snoc f l x, ba_assoc]
theorem catP_size {T : Type} (f : T → ByteArray) (n : Nat) (hf : ∀ x, (f x).size ≤ n) : ∀ l : List T, (catP f l).size ≤ l.length * n
  | [] => by show 0 ≤ _; omega
  | x :: l => by
    show (f x ++ catP f l).size ≤ _
    rw [ByteArray.size_append, List.length_cons, Nat.add_mul, Nat.one_mul]
    have := hf x
    have := catP_size f n hf l
    omega
theorem take_more {T : Type} {l : List T} {k : Nat} (hk : k < l.length) : l.take (k + 1) = l.take k ++ [l[k]] := by
  rw [List.take_add_one, List.getElem?_eq_getElem hk]
  rfl
theorem all_more {T : Type} (f : T → Bool) {l : List T} {k : Nat} (hk : k < l.length) : (l.take (k + 1)).all f = ((l.take k).all f && f l[k]) := by
  rw [take_more hk, List.all_append]
  simp
/-- How many there are, and each of them. -/
noncomputable def eachPart {T : Type} (f : T → ByteArray) (l : List T) : ByteArray := numPart (l.length : Int) ++ catP f l
noncomputable def eachB {T : Type} (f : T → Bool) (most : Int) (l : List T) : Bool := (decide (wholeN (l.length : Int)) && decide ((0 : Int) ≤ (l.length : Int)) && decide ((l.length : Int) ≤ most)) && l.all f

set_option maxHeartbeats 16000000 in
theorem iEachParam (wB : World) (g : Nat) (a : Option Addr) (c : Nat) (l : List ParamD) (most : Int) (w : World) (bs : ByteArray) (sp : Bool) (h : Wr wB.heap.size g w bs sp) (hb0 : Below wB.heap.size wB w) (hs : bs.size + 5 + 17 * l.length + 17 ≤ 100000000) (hr : Rows paramS Any wB a l) (hn : ∀ t ∈ l, t.fName.size ≤ maxLen) :
    Calls Try.prog 47 #[.pointer (some ⟨g, 0, none⟩), .slice a l.length c, .int .i64 most, .func (.func 48) #[] #[]] w fun e w' => e = .returned (.tuple #[]) ∧ Wr wB.heap.size g w' (bs ++ eachPart paramPart l) (sp || !eachB paramB most l) ∧ Below wB.heap.size wB w' ∧ Kp g w w' := by
  have hlt := h.lt
  have z1 := numPart_size (l.length : Int)
  have HP := Lib.hid (iPutNumber wB.heap.size g (l.length : Int) 0 most _ w bs sp h (by omega) rfl)
  have Hr := Lib.hid hr
  have Hn := Lib.hid hn
  have Hb0 := Lib.hid hb0
  have Fin := Lib.hid (show ∀ W, Wr wB.heap.size g W (bs ++ numPart (l.length : Int) ++ catP paramPart (l.take l.length)) ((sp || !(decide (wholeN (l.length : Int)) && decide ((0 : Int) ≤ (l.length : Int)) && decide ((l.length : Int) ≤ most))) || !(l.take l.length).all paramB) → Wr wB.heap.size g W (bs ++ eachPart paramPart l) (sp || !eachB paramB most l) from fun W h => by
    unfold eachPart eachB
    rw [List.take_length, ba_assoc, or_and] at h
    exact h)
  have hB := Nat.le_trans hlt.1 (Nat.le_of_lt hlt.2)
  clear h hr hn hb0
  generalize (sp || !(decide (wholeN (l.length : Int)) && decide ((0 : Int) ≤ (l.length : Int)) && decide ((l.length : Int) ≤ most))) = sp1 at *
  have hsz1 : (bs ++ numPart (l.length : Int)).size ≤ bs.size + 5 := by rw [ByteArray.size_append]; omega
  generalize bs ++ numPart (l.length : Int) = bs1 at *
  go_enter Try.func47, Try.ntmps47
  go_wp2_with fail
  refine HP.out.mono ?_
  rintro e w1 ⟨rfl, hW, hb, hk⟩
  have H1 := Lib.hid hW
  have B1 := Lib.hid (Hb0.out.trans hb)
  have K1 := Lib.hid hk
  clear hW hb hk HP
  go_wp2_with fail
  go_loopw [17] (fun i wr => ∃ k : Nat, i = .int .i64 k ∧ k ≤ l.length ∧ Wr wB.heap.size g wr (bs1 ++ catP paramPart (l.take k)) (sp1 || !(l.take k).all paramB) ∧ Below wB.heap.size wB wr ∧ Kp g w wr) (fun i _ => l.length - (intOf i).toNat)
  case atStart => exact ⟨0, rfl, by omega, by simpa [catP, ba_empty] using H1.out, B1.out, K1.out⟩
  case round =>
    obtain ⟨k, rfl, hk, hw, hbel, hkp⟩ := hrel
    have hsr := hbel.size
    have hglt := hw.lt
    have H := Lib.hid hw
    have Bl := Lib.hid hbel
    have K := Lib.hid hkp
    clear hw hkp
    by_cases hlt : k < l.length
    · obtain ⟨b, o, cs, rfl, _, hb1, hc1, hat⟩ := Hr.out k hlt
      obtain rfl : cs = [.string l[k].fName, .bool l[k].fByVar, .int .i64 l[k].fType] := hat
      have e0 := (hbel.cell (p := ⟨b, o + k * 3 + 0, none⟩) hb1).trans (hc1 0 (by decide))
      have e1 := (hbel.cell (p := ⟨b, o + k * 3 + 1, none⟩) hb1).trans (hc1 1 (by decide))
      have e2 := (hbel.cell (p := ⟨b, o + k * 3 + 2, none⟩) hb1).trans (hc1 2 (by decide))
      simp at e0 e1 e2
      have hnk := Hn.out _ (List.getElem_mem hlt)
      have Hc := Lib.hid (show catP paramPart (l.take (k + 1)) = catP paramPart (l.take k) ++ paramPart l[k] by rw [take_more hlt, catP_snoc])
      have Ha := Lib.hid (all_more paramB hlt)
      have hcs : (catP paramPart (l.take k)).size ≤ k * 17 := Nat.le_trans (catP_size paramPart 17 paramPart_size _) (by rw [List.length_take]; exact Nat.mul_le_mul_right _ (Nat.min_le_left _ _))
      clear hbel hc1
      generalize l[k] = t at *
      have HA := Lib.hid (H.out.below ((Below.refl _ _).alloc (Nat.le_refl _) (.cells #[.string t.fName, .bool t.fByVar, .int .i64 t.fType] 79)))
      have BA := Lib.hid (Bl.out.alloc hsr (.cells #[.string t.fName, .bool t.fByVar, .int .i64 t.fType] 79))
      have KA := Lib.hid (K.out.alloc (.cells #[.string t.fName, .bool t.fByVar, .int .i64 t.fType] 79))
      go_wp2_with fail
      refine (iWriteParam wB.heap.size g t _ _ _ HA.out (by rw [ByteArray.size_append]; omega) hnk).mono ?_
      rintro e w2 ⟨rfl, hW, hb, hk2⟩
      have H2 := Lib.hid (show Wr wB.heap.size g w2 (bs1 ++ catP paramPart (l.take (k + 1))) (sp1 || !(l.take (k + 1)).all paramB) by
        rw [Hc.out, Ha.out, ← ba_assoc, ← or_and]
        exact hW)
      have B2 := Lib.hid (BA.out.trans hb)
      have K2 := Lib.hid (KA.out.trans hk2)
      clear hW hb hk2
      go_wp2_with fail
      exact ⟨⟨k + 1, by congr 1, by omega, H2.out, B2.out, K2.out⟩, by simp [intOf]; omega⟩
    · obtain rfl : k = l.length := by omega
      clear hbel
      go_wp2_with fail
      go_end0
      exact ⟨rfl, Fin.out _ H.out, Bl.out, K.out⟩

set_option maxHeartbeats 16000000 in
theorem iEachField (wB : World) (g : Nat) (a : Option Addr) (c : Nat) (l : List FieldD) (most : Int) (w : World) (bs : ByteArray) (sp : Bool) (h : Wr wB.heap.size g w bs sp) (hb0 : Below wB.heap.size wB w) (hs : bs.size + 5 + 17 * l.length + 17 ≤ 100000000) (hr : Rows fieldS Any wB a l) (hn : ∀ t ∈ l, t.fName.size ≤ maxLen) :
    Calls Try.prog 37 #[.pointer (some ⟨g, 0, none⟩), .slice a l.length c, .int .i64 most, .func (.func 38) #[] #[]] w fun e w' => e = .returned (.tuple #[]) ∧ Wr wB.heap.size g w' (bs ++ eachPart fieldPart l) (sp || !eachB fieldB most l) ∧ Below wB.heap.size wB w' ∧ Kp g w w' := by
  have hlt := h.lt
  have z1 := numPart_size (l.length : Int)
  have HP := Lib.hid (iPutNumber wB.heap.size g (l.length : Int) 0 most _ w bs sp h (by omega) rfl)
  have Hr := Lib.hid hr
  have Hn := Lib.hid hn
  have Hb0 := Lib.hid hb0
  have Fin := Lib.hid (show ∀ W, Wr wB.heap.size g W (bs ++ numPart (l.length : Int) ++ catP fieldPart (l.take l.length)) ((sp || !(decide (wholeN (l.length : Int)) && decide ((0 : Int) ≤ (l.length : Int)) && decide ((l.length : Int) ≤ most))) || !(l.take l.length).all fieldB) → Wr wB.heap.size g W (bs ++ eachPart fieldPart l) (sp || !eachB fieldB most l) from fun W h => by
    unfold eachPart eachB
    rw [List.take_length, ba_assoc, or_and] at h
    exact h)
  have hB := Nat.le_trans hlt.1 (Nat.le_of_lt hlt.2)
  clear h hr hn hb0
  generalize (sp || !(decide (wholeN (l.length : Int)) && decide ((0 : Int) ≤ (l.length : Int)) && decide ((l.length : Int) ≤ most))) = sp1 at *
  have hsz1 : (bs ++ numPart (l.length : Int)).size ≤ bs.size + 5 := by rw [ByteArray.size_append]; omega
  generalize bs ++ numPart (l.length : Int) = bs1 at *
  go_enter Try.func37, Try.ntmps37
  go_wp2_with fail
  refine HP.out.mono ?_
  rintro e w1 ⟨rfl, hW, hb, hk⟩
  have H1 := Lib.hid hW
  have B1 := Lib.hid (Hb0.out.trans hb)
  have K1 := Lib.hid hk
  clear hW hb hk HP
  go_wp2_with fail
  go_loopw [17] (fun i wr => ∃ k : Nat, i = .int .i64 k ∧ k ≤ l.length ∧ Wr wB.heap.size g wr (bs1 ++ catP fieldPart (l.take k)) (sp1 || !(l.take k).all fieldB) ∧ Below wB.heap.size wB wr ∧ Kp g w wr) (fun i _ => l.length - (intOf i).toNat)
  case atStart => exact ⟨0, rfl, by omega, by simpa [catP, ba_empty] using H1.out, B1.out, K1.out⟩
  case round =>
    obtain ⟨k, rfl, hk, hw, hbel, hkp⟩ := hrel
    have hsr := hbel.size
    have hglt := hw.lt
    have H := Lib.hid hw
    have Bl := Lib.hid hbel
    have K := Lib.hid hkp
    clear hw hkp
    by_cases hlt : k < l.length
    · obtain ⟨b, o, cs, rfl, _, hb1, hc1, hat⟩ := Hr.out k hlt
      obtain rfl : cs = [.string l[k].fName, .int .i64 l[k].fMark, .int .i64 l[k].fType] := hat
      have e0 := (hbel.cell (p := ⟨b, o + k * 3 + 0, none⟩) hb1).trans (hc1 0 (by decide))
      have e1 := (hbel.cell (p := ⟨b, o + k * 3 + 1, none⟩) hb1).trans (hc1 1 (by decide))
      have e2 := (hbel.cell (p := ⟨b, o + k * 3 + 2, none⟩) hb1).trans (hc1 2 (by decide))
      simp at e0 e1 e2
      have hnk := Hn.out _ (List.getElem_mem hlt)
      have Hc := Lib.hid (show catP fieldPart (l.take (k + 1)) = catP fieldPart (l.take k) ++ fieldPart l[k] by rw [take_more hlt, catP_snoc])
      have Ha := Lib.hid (all_more fieldB hlt)
      have hcs : (catP fieldPart (l.take k)).size ≤ k * 17 := Nat.le_trans (catP_size fieldPart 17 fieldPart_size _) (by rw [List.length_take]; exact Nat.mul_le_mul_right _ (Nat.min_le_left _ _))
      clear hbel hc1
      generalize l[k] = t at *
      have HA := Lib.hid (H.out.below ((Below.refl _ _).alloc (Nat.le_refl _) (.cells #[.string t.fName, .int .i64 t.fMark, .int .i64 t.fType] 65)))
      have BA := Lib.hid (Bl.out.alloc hsr (.cells #[.string t.fName, .int .i64 t.fMark, .int .i64 t.fType] 65))
      have KA := Lib.hid (K.out.alloc (.cells #[.string t.fName, .int .i64 t.fMark, .int .i64 t.fType] 65))
      go_wp2_with fail
      refine (iWriteField wB.heap.size g t _ _ _ HA.out (by rw [ByteArray.size_append]; omega) hnk).mono ?_
      rintro e w2 ⟨rfl, hW, hb, hk2⟩
      have H2 := Lib.hid (show Wr wB.heap.size g w2 (bs1 ++ catP fieldPart (l.take (k + 1))) (sp1 || !(l.take (k + 1)).all fieldB) by
        rw [Hc.out, Ha.out, ← ba_assoc, ← or_and]
        exact hW)
      have B2 := Lib.hid (BA.out.trans hb)
      have K2 := Lib.hid (KA.out.trans hk2)
      clear hW hb hk2
      go_wp2_with fail
      exact ⟨⟨k + 1, by congr 1, by omega, H2.out, B2.out, K2.out⟩, by simp [intOf]; omega⟩
    · obtain rfl : k = l.length := by omega
      clear hbel
      go_wp2_with fail
      go_end0
      exact ⟨rfl, Fin.out _ H.out, Bl.out, K.out⟩

end Go.Proofs.Ytjhfjcindgaekaa
