
/-
  What is proved: contracts of the program's writeObject, writeType, ObjectBytes and TypeBytes. No condition beside what each theorem states.
-/
import Derived.Test.YtjhfjcindgaekaaWriteA
import Derived.Test.YtjhfjcindgaekaaStObject
import Derived.Test.YtjhfjcindgaekaaStType
namespace Go.Proofs.Ytjhfjcindgaekaa
open Go.ChangeShapes Go.WideShapes Go.ChangeAt Go.RowKit
set_option maxRecDepth 100000

def inB (lo hi n : Int) : Bool := decide (lo ≤ n) && decide (n ≤ hi)
def numIn (lo hi n : Int) : Bool := decide (wholeN n) && decide (lo ≤ n) && decide (n ≤ hi)
noncomputable def objPart (o : ObjectD) : ByteArray := byteB o.fKind ++ (byteB o.fMark ++ (namePart o.fName ++ (numPart o.fType ++ (numPart o.fValue ++ eachPart paramPart o.fParams))))
noncomputable def objB (o : ObjectD) : Bool := inB 1 4 o.fKind && (inB 0 2 o.fMark && (nameB o.fName && (numIn (-1) 24 o.fType && (decide (wholeN o.fValue) && eachB paramB 4 o.fParams))))
noncomputable def typePart (t : TypeD) : ByteArray := byteB t.fKind ++ (numPart t.fLong ++ (numPart t.fBase ++ (mayPart t.fOwner ++ (mayPart t.fName ++ eachPart fieldPart t.fFields))))
noncomputable def typeB (t : TypeD) : Bool := inB 4 6 t.fKind && (numIn 0 1000 t.fLong && (numIn (-1) 24 t.fBase && (mayB t.fOwner && (mayB t.fName && eachB fieldB 6 t.fFields))))
theorem iWhole_ok (B g : Nat) (w : World) (bs : ByteArray) (h : Wr B g w bs (!true)) : Calls Try.prog 20 #[.pointer (some ⟨g, 0, none⟩)] w fun e w' => e = .returned (.tuple #[.string bs, .bool true]) ∧ Below w.heap.size w w' := iWhole B g w bs false h
theorem iWhole_sp (B g : Nat) (w : World) (bs : ByteArray) (h : Wr B g w bs (!false)) : Calls Try.prog 20 #[.pointer (some ⟨g, 0, none⟩)] w fun e w' => e = .returned (.tuple #[.string ByteArray.empty, .bool false]) ∧ Below w.heap.size w w' := iWhole B g w bs true h
theorem or_and6 (s a b c d e f : Bool) : ((((((s || !a) || !b) || !c) || !d) || !e) || !f) = (s || !(a && (b && (c && (d && (e && f)))))) := by cases s <;> cases a <;> cases b <;> cases c <;> cases d <;> cases e <;> cases f <;> rfl

set_option maxHeartbeats 16000000 in
theorem iWriteObject (wB : World) (g : Nat) (t : ObjectD) (a : Option Addr) (c : Nat) (w : World) (bs : ByteArray) (sp : Bool) (h : Wr wB.heap.size g w bs sp) (hb0 : Below wB.heap.size wB w) (hs : bs.size + 60 + 17 * t.fParams.length + 17 ≤ 100000000) (hr : Rows paramS Any wB a t.fParams) (hn : ∀ x ∈ t.fParams, x.fName.size ≤ maxLen) (hno : t.fName.size ≤ maxLen) :
    Calls Try.prog 26 #[.pointer (some ⟨g, 0, none⟩), .agg #[.string t.fName, .int .i64 t.fKind, .int .i64 t.fMark, .int .i64 t.fType, .int .i64 t.fValue, .slice a t.fParams.length c]] w fun e w' => e = .returned (.tuple #[]) ∧ Wr wB.heap.size g w' (bs ++ objPart t) (sp || !objB t) ∧ Below wB.heap.size wB w' := by
  have hl := h.lt
  have hBw := hb0.size
  have H0 := Lib.hid (h.below ((Below.refl w.heap.size w).alloc (Nat.le_refl _) (.cells #[.string t.fName, .int .i64 t.fKind, .int .i64 t.fMark, .int .i64 t.fType, .int .i64 t.fValue, .slice a t.fParams.length c] 41)))
  have X0 := Lib.hid (Box.new w 41 #[.string t.fName, .int .i64 t.fKind, .int .i64 t.fMark, .int .i64 t.fType, .int .i64 t.fValue, .slice a t.fParams.length c])
  have B0 := Lib.hid (hb0.alloc hBw (.cells #[.string t.fName, .int .i64 t.fKind, .int .i64 t.fMark, .int .i64 t.fType, .int .i64 t.fValue, .slice a t.fParams.length c] 41))
  have Hr := Lib.hid hr
  have Hn := Lib.hid hn
  have Fin := Lib.hid (show ∀ W, Wr wB.heap.size g W (bs ++ byteB t.fKind ++ byteB t.fMark ++ namePart t.fName ++ numPart t.fType ++ numPart t.fValue ++ eachPart paramPart t.fParams) ((((((sp || !(inB 1 4 t.fKind)) || !(inB 0 2 t.fMark)) || !(nameB t.fName)) || !(numIn (-1) 24 t.fType)) || !(decide (wholeN t.fValue))) || !(eachB paramB 4 t.fParams)) → Wr wB.heap.size g W (bs ++ objPart t) (sp || !objB t) from fun W h => by
    unfold objPart objB
    rw [ba_assoc, ba_assoc, ba_assoc, ba_assoc, ba_assoc, or_and6] at h
    exact h)
  clear h hb0 hr hn
  have z1 := namePart_size t.fName
  have z2 := numPart_size t.fType
  have z3 := numPart_size t.fValue
  go_enter Try.func26, Try.ntmps26
  have x0 : _ = some (Value.string t.fName) := X0.out.cell 0
  have x1 : _ = some (Value.int .i64 t.fKind) := X0.out.cell 1
  have x2 : _ = some (Value.int .i64 t.fMark) := X0.out.cell 2
  have x3 : _ = some (Value.int .i64 t.fType) := X0.out.cell 3
  have x4 : _ = some (Value.int .i64 t.fValue) := X0.out.cell 4
  have x5 : _ = some (Value.slice a t.fParams.length c) := X0.out.cell 5
  go_wp2_with fail
  refine (iPutByte wB.heap.size g _ 1 4 _ _ _ _ H0.out (by first | omega | (simp only [ByteArray.size_append]; omega) | (simp only [ByteArray.size_append, byteB_size]; omega)) rfl).mono ?_
  clear x0 x1 x2 x3 x4 x5
  rintro e w1 ⟨rfl, hW, hb, hk⟩
  have H1 := Lib.hid hW
  have X1 := Lib.hid (hk.box X0.out (by omega) (by decide))
  have B1 := Lib.hid (B0.out.trans hb)
  clear hW hb hk
  have x0 : _ = some (Value.string t.fName) := X1.out.cell 0
  have x1 : _ = some (Value.int .i64 t.fKind) := X1.out.cell 1
  have x2 : _ = some (Value.int .i64 t.fMark) := X1.out.cell 2
  have x3 : _ = some (Value.int .i64 t.fType) := X1.out.cell 3
  have x4 : _ = some (Value.int .i64 t.fValue) := X1.out.cell 4
  have x5 : _ = some (Value.slice a t.fParams.length c) := X1.out.cell 5
  go_wp2_with fail
  refine (iPutByte wB.heap.size g _ 0 2 _ _ _ _ H1.out (by first | omega | (simp only [ByteArray.size_append]; omega) | (simp only [ByteArray.size_append, byteB_size]; omega)) rfl).mono ?_
  clear x0 x1 x2 x3 x4 x5
  rintro e w2 ⟨rfl, hW, hb, hk⟩
  have H2 := Lib.hid hW
  have X2 := Lib.hid (hk.box X1.out (by omega) (by decide))
  have B2 := Lib.hid (B1.out.trans hb)
  clear hW hb hk
  have x0 : _ = some (Value.string t.fName) := X2.out.cell 0
  have x1 : _ = some (Value.int .i64 t.fKind) := X2.out.cell 1
  have x2 : _ = some (Value.int .i64 t.fMark) := X2.out.cell 2
  have x3 : _ = some (Value.int .i64 t.fType) := X2.out.cell 3
  have x4 : _ = some (Value.int .i64 t.fValue) := X2.out.cell 4
  have x5 : _ = some (Value.slice a t.fParams.length c) := X2.out.cell 5
  go_wp2_with fail
  refine (iName _ _ hno).mono ?_
  rintro e v2 ⟨rfl, hb1⟩
  have G2 := Lib.hid (H2.out.below hb1)
  have Y2 := Lib.hid (X2.out.below hb1 (Box.lt X2.out))
  have D2 := Lib.hid (B2.out.trans (hb1.mono (Nat.le_trans (Nat.le_trans H2.out.lt.1 (Nat.le_of_lt H2.out.lt.2)) (Nat.le_refl _))))
  clear hb1
  go_wp2_with fail
  refine (iPut wB.heap.size g _ _ _ _ _ G2.out (by first | omega | (simp only [ByteArray.size_append]; omega) | (simp only [ByteArray.size_append, byteB_size]; omega))).mono ?_
  clear x0 x1 x2 x3 x4 x5
  rintro e w3 ⟨rfl, hW, hb, hk⟩
  have H3 := Lib.hid hW
  have X3 := Lib.hid (hk.box Y2.out (by omega) (by decide))
  have B3 := Lib.hid (D2.out.trans hb)
  clear hW hb hk
  have x0 : _ = some (Value.string t.fName) := X3.out.cell 0
  have x1 : _ = some (Value.int .i64 t.fKind) := X3.out.cell 1
  have x2 : _ = some (Value.int .i64 t.fMark) := X3.out.cell 2
  have x3 : _ = some (Value.int .i64 t.fType) := X3.out.cell 3
  have x4 : _ = some (Value.int .i64 t.fValue) := X3.out.cell 4
  have x5 : _ = some (Value.slice a t.fParams.length c) := X3.out.cell 5
  go_wp2_with fail
  refine (iPutNumber wB.heap.size g _ (-1) 24 _ _ _ _ H3.out (by first | omega | (simp only [ByteArray.size_append]; omega) | (simp only [ByteArray.size_append, byteB_size]; omega)) rfl).mono ?_
  clear x0 x1 x2 x3 x4 x5
  rintro e w4 ⟨rfl, hW, hb, hk⟩
  have H4 := Lib.hid hW
  have X4 := Lib.hid (hk.box X3.out (by omega) (by decide))
  have B4 := Lib.hid (B3.out.trans hb)
  clear hW hb hk
  have x0 : _ = some (Value.string t.fName) := X4.out.cell 0
  have x1 : _ = some (Value.int .i64 t.fKind) := X4.out.cell 1
  have x2 : _ = some (Value.int .i64 t.fMark) := X4.out.cell 2
  have x3 : _ = some (Value.int .i64 t.fType) := X4.out.cell 3
  have x4 : _ = some (Value.int .i64 t.fValue) := X4.out.cell 4
  have x5 : _ = some (Value.slice a t.fParams.length c) := X4.out.cell 5
  go_wp2_with fail
  refine (iNum _ _).mono ?_
  rintro e v4 ⟨rfl, hb1⟩
  have G4 := Lib.hid (H4.out.below hb1)
  have Y4 := Lib.hid (X4.out.below hb1 (Box.lt X4.out))
  have D4 := Lib.hid (B4.out.trans (hb1.mono (Nat.le_trans (Nat.le_trans H4.out.lt.1 (Nat.le_of_lt H4.out.lt.2)) (Nat.le_refl _))))
  clear hb1
  go_wp2_with fail
  refine (iPut wB.heap.size g _ _ _ _ _ G4.out (by first | omega | (simp only [ByteArray.size_append]; omega) | (simp only [ByteArray.size_append, byteB_size]; omega))).mono ?_
  clear x0 x1 x2 x3 x4 x5
  rintro e w5 ⟨rfl, hW, hb, hk⟩
  have H5 := Lib.hid hW
  have X5 := Lib.hid (hk.box Y4.out (by omega) (by decide))
  have B5 := Lib.hid (D4.out.trans hb)
  clear hW hb hk
  have x0 : _ = some (Value.string t.fName) := X5.out.cell 0
  have x1 : _ = some (Value.int .i64 t.fKind) := X5.out.cell 1
  have x2 : _ = some (Value.int .i64 t.fMark) := X5.out.cell 2
  have x3 : _ = some (Value.int .i64 t.fType) := X5.out.cell 3
  have x4 : _ = some (Value.int .i64 t.fValue) := X5.out.cell 4
  have x5 : _ = some (Value.slice a t.fParams.length c) := X5.out.cell 5
  go_wp2_with fail
  refine (iEachParam wB g a c _ 4 _ _ _ H5.out B5.out (by first | omega | (simp only [ByteArray.size_append]; omega) | (simp only [ByteArray.size_append, byteB_size]; omega)) Hr.out Hn.out).mono ?_
  rintro e w6 ⟨rfl, hW, hb, hk⟩
  have HW := Lib.hid hW
  have BW := Lib.hid hb
  clear hW hb hk
  go_wp2_with fail
  go_end0
  exact ⟨rfl, Fin.out _ HW.out, BW.out⟩

set_option maxHeartbeats 4000000 in
theorem iObjectBytes (t : ObjectD) (a : Option Addr) (c : Nat) (w : World) (hs : 17 * t.fParams.length ≤ 90000000) (hr : Rows paramS Any w a t.fParams) (hn : ∀ x ∈ t.fParams, x.fName.size ≤ maxLen) (hno : t.fName.size ≤ maxLen) :
    Calls Try.prog 13 #[.agg #[.string t.fName, .int .i64 t.fKind, .int .i64 t.fMark, .int .i64 t.fType, .int .i64 t.fValue, .slice a t.fParams.length c]] w fun e w' => e = .returned (.tuple #[.string (if objB t then objPart t else ByteArray.empty), .bool (objB t)]) ∧ Below w.heap.size w w' := by
  have hm : (Try.prog.info? 51).map (fun i => (i.zero, i.size)) = some (some (.agg #[.slice none 0 0, .bool false]), 2) := by kernel_rfl
  have B0 := Lib.hid (((Below.refl w.heap.size w).alloc (Nat.le_refl _) (.cells #[.string t.fName, .int .i64 t.fKind, .int .i64 t.fMark, .int .i64 t.fType, .int .i64 t.fValue, .slice a t.fParams.length c] 41)).alloc (by simp) (.cells #[.slice none 0 0, .bool false] 51))
  have X0 := Lib.hid ((Box.new w 41 #[.string t.fName, .int .i64 t.fKind, .int .i64 t.fMark, .int .i64 t.fType, .int .i64 t.fValue, .slice a t.fParams.length c]).alloc (.cells #[.slice none 0 0, .bool false] 51))
  have W0 := Lib.hid (show Wr w.heap.size (w.heap.size + 1) ((w.alloc (.cells #[.string t.fName, .int .i64 t.fKind, .int .i64 t.fMark, .int .i64 t.fType, .int .i64 t.fValue, .slice a t.fParams.length c] 41)).alloc (.cells #[.slice none 0 0, .bool false] 51)) ByteArray.empty false from ⟨by omega, .slice none 0 0, Box.new' _ _ _ (by simp), World.ownsRow_nil _ _ _ _⟩)
  have HW := Lib.hid (iWriteObject w (w.heap.size + 1) t a c _ _ _ W0.out B0.out (by show 0 + 60 + _ + 17 ≤ _; omega) hr hn hno)
  rw [ba_nil, Bool.false_or] at HW
  clear hr hn
  have y0 : _ = some _ := X0.out.cell 0
  clear y0
  cases hq : objB t
  all_goals
    rw [hq] at HW
    go_enter Try.func13, Try.ntmps13
    have y0 : _ = some (Value.string t.fName) := X0.out.cell 0
    have y1 : _ = some (Value.int .i64 t.fKind) := X0.out.cell 1
    have y2 : _ = some (Value.int .i64 t.fMark) := X0.out.cell 2
    have y3 : _ = some (Value.int .i64 t.fType) := X0.out.cell 3
    have y4 : _ = some (Value.int .i64 t.fValue) := X0.out.cell 4
    have y5 : _ = some (Value.slice a t.fParams.length c) := X0.out.cell 5
    go_wp2_with fail
    refine HW.out.mono ?_
    rintro e w1 ⟨rfl, hW, hb⟩
    have H1 := Lib.hid hW
    have B1 := Lib.hid hb
    clear hW hb
    go_wp2_with fail
    first
      | refine (iWhole_ok _ _ _ _ H1.out).mono ?_
      | refine (iWhole_sp _ _ _ _ H1.out).mono ?_
    rintro e w2 ⟨rfl, hb2⟩
    have B2 := Lib.hid (B1.out.trans (hb2.mono B1.out.size))
    clear hb2
    go_wp2_with fail
    go_ret2
    exact ⟨rfl, B2.out⟩

set_option maxHeartbeats 16000000 in
theorem iWriteType (wB : World) (g : Nat) (t : TypeD) (a : Option Addr) (c : Nat) (w : World) (bs : ByteArray) (sp : Bool) (h : Wr wB.heap.size g w bs sp) (hb0 : Below wB.heap.size wB w) (hs : bs.size + 60 + 17 * t.fFields.length + 17 ≤ 100000000) (hr : Rows fieldS Any wB a t.fFields) (hn : ∀ x ∈ t.fFields, x.fName.size ≤ maxLen) (hno : t.fOwner.size ≤ maxLen) (hnm : t.fName.size ≤ maxLen) :
    Calls Try.prog 19 #[.pointer (some ⟨g, 0, none⟩), .agg #[.int .i64 t.fKind, .int .i64 t.fLong, .int .i64 t.fBase, .slice a t.fFields.length c, .string t.fOwner, .string t.fName]] w fun e w' => e = .returned (.tuple #[]) ∧ Wr wB.heap.size g w' (bs ++ typePart t) (sp || !typeB t) ∧ Below wB.heap.size wB w' := by
  have hl := h.lt
  have hBw := hb0.size
  have H0 := Lib.hid (h.below ((Below.refl w.heap.size w).alloc (Nat.le_refl _) (.cells #[.int .i64 t.fKind, .int .i64 t.fLong, .int .i64 t.fBase, .slice a t.fFields.length c, .string t.fOwner, .string t.fName] 30)))
  have X0 := Lib.hid (Box.new w 30 #[.int .i64 t.fKind, .int .i64 t.fLong, .int .i64 t.fBase, .slice a t.fFields.length c, .string t.fOwner, .string t.fName])
  have B0 := Lib.hid (hb0.alloc hBw (.cells #[.int .i64 t.fKind, .int .i64 t.fLong, .int .i64 t.fBase, .slice a t.fFields.length c, .string t.fOwner, .string t.fName] 30))
  have Hr := Lib.hid hr
  have Hn := Lib.hid hn
  have Fin := Lib.hid (show ∀ W, Wr wB.heap.size g W (bs ++ byteB t.fKind ++ numPart t.fLong ++ numPart t.fBase ++ mayPart t.fOwner ++ mayPart t.fName ++ eachPart fieldPart t.fFields) ((((((sp || !(inB 4 6 t.fKind)) || !(numIn 0 1000 t.fLong)) || !(numIn (-1) 24 t.fBase)) || !(mayB t.fOwner)) || !(mayB t.fName)) || !(eachB fieldB 6 t.fFields)) → Wr wB.heap.size g W (bs ++ typePart t) (sp || !typeB t) from fun W h => by
    unfold typePart typeB
    rw [ba_assoc, ba_assoc, ba_assoc, ba_assoc, ba_assoc, or_and6] at h
    exact h)
  clear h hb0 hr hn
  have z1 := numPart_size t.fLong
  have z2 := numPart_size t.fBase
  have z3 := mayPart_size t.fOwner
  have z4 := mayPart_size t.fName
  go_enter Try.func19, Try.ntmps19
  have x0 : _ = some (Value.int .i64 t.fKind) := X0.out.cell 0
  have x1 : _ = some (Value.int .i64 t.fLong) := X0.out.cell 1
  have x2 : _ = some (Value.int .i64 t.fBase) := X0.out.cell 2
  have x3 : _ = some (Value.slice a t.fFields.length c) := X0.out.cell 3
  have x4 : _ = some (Value.string t.fOwner) := X0.out.cell 4
  have x5 : _ = some (Value.string t.fName) := X0.out.cell 5
  go_wp2_with fail
  refine (iPutByte wB.heap.size g _ 4 6 _ _ _ _ H0.out (by first | omega | (simp only [ByteArray.size_append]; omega) | (simp only [ByteArray.size_append, byteB_size]; omega)) rfl).mono ?_
  clear x0 x1 x2 x3 x4 x5
  rintro e w1 ⟨rfl, hW, hb, hk⟩
  have H1 := Lib.hid hW
  have X1 := Lib.hid (hk.box X0.out (by omega) (by decide))
  have B1 := Lib.hid (B0.out.trans hb)
  clear hW hb hk
  have x0 : _ = some (Value.int .i64 t.fKind) := X1.out.cell 0
  have x1 : _ = some (Value.int .i64 t.fLong) := X1.out.cell 1
  have x2 : _ = some (Value.int .i64 t.fBase) := X1.out.cell 2
  have x3 : _ = some (Value.slice a t.fFields.length c) := X1.out.cell 3
  have x4 : _ = some (Value.string t.fOwner) := X1.out.cell 4
  have x5 : _ = some (Value.string t.fName) := X1.out.cell 5
  go_wp2_with fail
  refine (iPutNumber wB.heap.size g _ 0 1000 _ _ _ _ H1.out (by first | omega | (simp only [ByteArray.size_append]; omega) | (simp only [ByteArray.size_append, byteB_size]; omega)) rfl).mono ?_
  clear x0 x1 x2 x3 x4 x5
  rintro e w2 ⟨rfl, hW, hb, hk⟩
  have H2 := Lib.hid hW
  have X2 := Lib.hid (hk.box X1.out (by omega) (by decide))
  have B2 := Lib.hid (B1.out.trans hb)
  clear hW hb hk
  have x0 : _ = some (Value.int .i64 t.fKind) := X2.out.cell 0
  have x1 : _ = some (Value.int .i64 t.fLong) := X2.out.cell 1
  have x2 : _ = some (Value.int .i64 t.fBase) := X2.out.cell 2
  have x3 : _ = some (Value.slice a t.fFields.length c) := X2.out.cell 3
  have x4 : _ = some (Value.string t.fOwner) := X2.out.cell 4
  have x5 : _ = some (Value.string t.fName) := X2.out.cell 5
  go_wp2_with fail
  refine (iPutNumber wB.heap.size g _ (-1) 24 _ _ _ _ H2.out (by first | omega | (simp only [ByteArray.size_append]; omega) | (simp only [ByteArray.size_append, byteB_size]; omega)) rfl).mono ?_
  clear x0 x1 x2 x3 x4 x5
  rintro e w3 ⟨rfl, hW, hb, hk⟩
  have H3 := Lib.hid hW
  have X3 := Lib.hid (hk.box X2.out (by omega) (by decide))
  have B3 := Lib.hid (B2.out.trans hb)
  clear hW hb hk
  have x0 : _ = some (Value.int .i64 t.fKind) := X3.out.cell 0
  have x1 : _ = some (Value.int .i64 t.fLong) := X3.out.cell 1
  have x2 : _ = some (Value.int .i64 t.fBase) := X3.out.cell 2
  have x3 : _ = some (Value.slice a t.fFields.length c) := X3.out.cell 3
  have x4 : _ = some (Value.string t.fOwner) := X3.out.cell 4
  have x5 : _ = some (Value.string t.fName) := X3.out.cell 5
  go_wp2_with fail
  refine (iPutMaybe wB.heap.size g _ _ _ _ _ H3.out (by first | omega | (simp only [ByteArray.size_append]; omega) | (simp only [ByteArray.size_append, byteB_size]; omega)) hno rfl).mono ?_
  clear x0 x1 x2 x3 x4 x5
  rintro e w4 ⟨rfl, hW, hb, hk⟩
  have H4 := Lib.hid hW
  have X4 := Lib.hid (hk.box X3.out (by omega) (by decide))
  have B4 := Lib.hid (B3.out.trans hb)
  clear hW hb hk
  have x0 : _ = some (Value.int .i64 t.fKind) := X4.out.cell 0
  have x1 : _ = some (Value.int .i64 t.fLong) := X4.out.cell 1
  have x2 : _ = some (Value.int .i64 t.fBase) := X4.out.cell 2
  have x3 : _ = some (Value.slice a t.fFields.length c) := X4.out.cell 3
  have x4 : _ = some (Value.string t.fOwner) := X4.out.cell 4
  have x5 : _ = some (Value.string t.fName) := X4.out.cell 5
  go_wp2_with fail
  refine (iPutMaybe wB.heap.size g _ _ _ _ _ H4.out (by first | omega | (simp only [ByteArray.size_append]; omega) | (simp only [ByteArray.size_append, byteB_size]; omega)) hnm rfl).mono ?_
  clear x0 x1 x2 x3 x4 x5
  rintro e w5 ⟨rfl, hW, hb, hk⟩
  have H5 := Lib.hid hW
  have X5 := Lib.hid (hk.box X4.out (by omega) (by decide))
  have B5 := Lib.hid (B4.out.trans hb)
  clear hW hb hk
  have x0 : _ = some (Value.int .i64 t.fKind) := X5.out.cell 0
  have x1 : _ = some (Value.int .i64 t.fLong) := X5.out.cell 1
  have x2 : _ = some (Value.int .i64 t.fBase) := X5.out.cell 2
  have x3 : _ = some (Value.slice a t.fFields.length c) := X5.out.cell 3
  have x4 : _ = some (Value.string t.fOwner) := X5.out.cell 4
  have x5 : _ = some (Value.string t.fName) := X5.out.cell 5
  go_wp2_with fail
  refine (iEachField wB g a c _ 6 _ _ _ H5.out B5.out (by first | omega | (simp only [ByteArray.size_append]; omega) | (simp only [ByteArray.size_append, byteB_size]; omega)) Hr.out Hn.out).mono ?_
  rintro e w6 ⟨rfl, hW, hb, hk⟩
  have HW := Lib.hid hW
  have BW := Lib.hid hb
  clear hW hb hk
  go_wp2_with fail
  go_end0
  exact ⟨rfl, Fin.out _ HW.out, BW.out⟩

set_option maxHeartbeats 4000000 in
theorem iTypeBytes (t : TypeD) (a : Option Addr) (c : Nat) (w : World) (hs : 17 * t.fFields.length ≤ 90000000) (hr : Rows fieldS Any w a t.fFields) (hn : ∀ x ∈ t.fFields, x.fName.size ≤ maxLen) (hno : t.fOwner.size ≤ maxLen) (hnm : t.fName.size ≤ maxLen) :
    Calls Try.prog 8 #[.agg #[.int .i64 t.fKind, .int .i64 t.fLong, .int .i64 t.fBase, .slice a t.fFields.length c, .string t.fOwner, .string t.fName]] w fun e w' => e = .returned (.tuple #[.string (if typeB t then typePart t else ByteArray.empty), .bool (typeB t)]) ∧ Below w.heap.size w w' := by
  have hm : (Try.prog.info? 51).map (fun i => (i.zero, i.size)) = some (some (.agg #[.slice none 0 0, .bool false]), 2) := by kernel_rfl
  have B0 := Lib.hid (((Below.refl w.heap.size w).alloc (Nat.le_refl _) (.cells #[.int .i64 t.fKind, .int .i64 t.fLong, .int .i64 t.fBase, .slice a t.fFields.length c, .string t.fOwner, .string t.fName] 30)).alloc (by simp) (.cells #[.slice none 0 0, .bool false] 51))
  have X0 := Lib.hid ((Box.new w 30 #[.int .i64 t.fKind, .int .i64 t.fLong, .int .i64 t.fBase, .slice a t.fFields.length c, .string t.fOwner, .string t.fName]).alloc (.cells #[.slice none 0 0, .bool false] 51))
  have W0 := Lib.hid (show Wr w.heap.size (w.heap.size + 1) ((w.alloc (.cells #[.int .i64 t.fKind, .int .i64 t.fLong, .int .i64 t.fBase, .slice a t.fFields.length c, .string t.fOwner, .string t.fName] 30)).alloc (.cells #[.slice none 0 0, .bool false] 51)) ByteArray.empty false from ⟨by omega, .slice none 0 0, Box.new' _ _ _ (by simp), World.ownsRow_nil _ _ _ _⟩)
  have HW := Lib.hid (iWriteType w (w.heap.size + 1) t a c _ _ _ W0.out B0.out (by show 0 + 60 + _ + 17 ≤ _; omega) hr hn hno hnm)
  rw [ba_nil, Bool.false_or] at HW
  clear hr hn
  have y0 : _ = some _ := X0.out.cell 0
  clear y0
  cases hq : typeB t
  all_goals
    rw [hq] at HW
    go_enter Try.func8, Try.ntmps8
    have y0 : _ = some (Value.int .i64 t.fKind) := X0.out.cell 0
    have y1 : _ = some (Value.int .i64 t.fLong) := X0.out.cell 1
    have y2 : _ = some (Value.int .i64 t.fBase) := X0.out.cell 2
    have y3 : _ = some (Value.slice a t.fFields.length c) := X0.out.cell 3
    have y4 : _ = some (Value.string t.fOwner) := X0.out.cell 4
    have y5 : _ = some (Value.string t.fName) := X0.out.cell 5
    go_wp2_with fail
    refine HW.out.mono ?_
    rintro e w1 ⟨rfl, hW, hb⟩
    have H1 := Lib.hid hW
    have B1 := Lib.hid hb
    clear hW hb
    go_wp2_with fail
    first
      | refine (iWhole_ok _ _ _ _ H1.out).mono ?_
      | refine (iWhole_sp _ _ _ _ H1.out).mono ?_
    rintro e w2 ⟨rfl, hb2⟩
    have B2 := Lib.hid (B1.out.trans (hb2.mono B1.out.size))
    clear hb2
    go_wp2_with fail
    go_ret2
    exact ⟨rfl, B2.out⟩

end Go.Proofs.Ytjhfjcindgaekaa
