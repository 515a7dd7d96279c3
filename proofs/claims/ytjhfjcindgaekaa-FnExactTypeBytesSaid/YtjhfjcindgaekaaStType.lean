
/-
  What is proved: structs Type in memory: opened where they came in, counted, copied, compared, alone and in slices. No condition beside what each theorem states.
-/
import Derived.Test.YtjhfjcindgaekaaNum
import Derived.Test.YtjhfjcindgaekaaMem
import Derived.Test.YtjhfjcindgaekaaMark
import Derived.Test.YtjhfjcindgaekaaStField
import Derived.Deep.QuietTactic
import Derived.BigQuiet
import Derived.StillTailTactics
namespace Go.Proofs.Ytjhfjcindgaekaa
open Go.ChangeShapes Go.WideShapes Go.ChangeAt Go.RowKit

/-- Type as data. -/
structure TypeD where
  fKind : Int
  fLong : Int
  fBase : Int
  fFields : List FieldD
  fOwner : ByteArray
  fName : ByteArray

def typeAt (Q : Nat → Prop) (w : World) (cs : List Value) (t : TypeD) : Prop := ∃ (a3 : Option Addr) (c3 : Nat), cs = [.int .i64 t.fKind, .int .i64 t.fLong, .int .i64 t.fBase, .slice a3 t.fFields.length c3, .string t.fOwner, .string t.fName] ∧ (Rows fieldS Q w a3 t.fFields ∧ t.fFields.length ≤ c3)
/-- How one lies in memory. -/
def typeS : Shape TypeD where
  n := 6
  At := typeAt
  len h := by obtain ⟨a3, c3, rfl, h3⟩ := h; rfl
  keep h hb hs := by obtain ⟨a3, c3, rfl, h3⟩ := h; exact ⟨a3, c3, rfl, ⟨h3.1.keep hb hs, h3.2⟩⟩
  mono h hq := by obtain ⟨a3, c3, rfl, h3⟩ := h; exact ⟨a3, c3, rfl, ⟨h3.1.mono hq, h3.2⟩⟩

/-- What is known of one that came in. -/
def TypeD.came (t : TypeD) : Prop := (Lit.int .i64 t.fKind).wf = true ∧ (Lit.int .i64 t.fLong).wf = true ∧ (Lit.int .i64 t.fBase).wf = true ∧ (t.fFields.length ≤ maxLen ∧ ∀ x ∈ t.fFields, x.came) ∧ t.fOwner.size ≤ maxLen ∧ t.fName.size ≤ maxLen
/-- How much it holds. -/
def TypeD.wt (t : TypeD) : Nat := wtL FieldD.wt t.fFields + t.fOwner.size + t.fName.size

theorem cellsTypeL : Try.prog.cellsOf 24 = 6 := by kernel_rfl
theorem c1TypeSlField : Try.prog.cellsOf 22 = 1 := by kernel_rfl
theorem c1TypeInt : Try.prog.cellsOf 3 = 1 := by kernel_rfl
theorem c1TypeStr : Try.prog.cellsOf 9 = 1 := by kernel_rfl
theorem lenType {l : List Value} (h : l.length = 6) : ∃ e0 e1 e2 e3 e4 e5, l = [e0, e1, e2, e3, e4, e5] := by
  match l, h with
  | [e0, e1, e2, e3, e4, e5], _ => exact ⟨e0, e1, e2, e3, e4, e5, rfl⟩
theorem openType {H : Type} {enc : TypeId × Value → H} {w : World} {base : Nat} {spare : Nat → Bool} {held : Bool} (m : Nat) (cs : List Value) (x : DataW H × List MemPlace) (h : DataW.trod enc Try.prog w base spare held m 24 cs = some x) : ∃ t, typeS.At Any w cs t ∧ t.came := by
  obtain ⟨xs, n, rfl, _, hlen, hxs, hf⟩ := DataW.trod_struct Try.underlying24 h
  rw [cellsTypeL] at hlen
  obtain ⟨e0, e1, e2, e3, e4, e5, rfl⟩ := lenType hlen
  replace hxs : xs.length = 6 := hxs
  have h0 := hf 0 _ rfl
  change DataW.trod enc Try.prog w base spare held n 3 (List.take (Try.prog.cellsOf 3) [e0, e1, e2, e3, e4, e5]) = xs[0]? at h0
  rw [c1TypeInt, List.getElem?_eq_getElem (by omega)] at h0
  replace h0 : DataW.trod enc Try.prog w base spare held n 3 [e0] = _ := h0
  obtain ⟨v0, q0, _, k0⟩ := DataW.trod_int Try.underlying3 h0
  injection q0 with q0 _
  have h1 := hf 1 _ rfl
  change DataW.trod enc Try.prog w base spare held n 3 (List.take (Try.prog.cellsOf 3) [e1, e2, e3, e4, e5]) = xs[1]? at h1
  rw [c1TypeInt, List.getElem?_eq_getElem (by omega)] at h1
  replace h1 : DataW.trod enc Try.prog w base spare held n 3 [e1] = _ := h1
  obtain ⟨v1, q1, _, k1⟩ := DataW.trod_int Try.underlying3 h1
  injection q1 with q1 _
  have h2 := hf 2 _ rfl
  change DataW.trod enc Try.prog w base spare held n 3 (List.take (Try.prog.cellsOf 3) [e2, e3, e4, e5]) = xs[2]? at h2
  rw [c1TypeInt, List.getElem?_eq_getElem (by omega)] at h2
  replace h2 : DataW.trod enc Try.prog w base spare held n 3 [e2] = _ := h2
  obtain ⟨v2, q2, _, k2⟩ := DataW.trod_int Try.underlying3 h2
  injection q2 with q2 _
  have h3 := hf 3 _ rfl
  change DataW.trod enc Try.prog w base spare held n 22 (List.take (Try.prog.cellsOf 22) [e3, e4, e5]) = xs[3]? at h3
  rw [c1TypeSlField, List.getElem?_eq_getElem (by omega)] at h3
  replace h3 : DataW.trod enc Try.prog w base spare held n 22 [e3] = _ := h3
  obtain ⟨a3, c3, v3, q3, z3, k3, r3, s3⟩ := open_rows fieldS _ Try.underlying22 cellsFieldL (by decide) openField h3
  injection q3 with q3 _
  have h4 := hf 4 _ rfl
  change DataW.trod enc Try.prog w base spare held n 9 (List.take (Try.prog.cellsOf 9) [e4, e5]) = xs[4]? at h4
  rw [c1TypeStr, List.getElem?_eq_getElem (by omega)] at h4
  replace h4 : DataW.trod enc Try.prog w base spare held n 9 [e4] = _ := h4
  obtain ⟨v4, q4, _, k4⟩ := DataW.trod_string Try.underlying9 h4
  injection q4 with q4 _
  have h5 := hf 5 _ rfl
  change DataW.trod enc Try.prog w base spare held n 9 (List.take (Try.prog.cellsOf 9) [e5]) = xs[5]? at h5
  rw [c1TypeStr, List.getElem?_eq_getElem (by omega)] at h5
  replace h5 : DataW.trod enc Try.prog w base spare held n 9 [e5] = _ := h5
  obtain ⟨v5, q5, _, k5⟩ := DataW.trod_string Try.underlying9 h5
  injection q5 with q5 _
  subst q0 q1 q2 q3 q4 q5
  exact ⟨⟨v0, v1, v2, v3, v4, v5⟩, ⟨a3, c3, rfl, ⟨r3, z3⟩⟩, k0, k1, k2, ⟨k3, s3⟩, k4, k5⟩

theorem infoType : (Try.prog.info? 30).map (fun i => (i.zero, i.size, i.bytes)) = some (some (.agg #[.int .i64 0, .int .i64 0, .int .i64 0, .slice none 0 0, .string ByteArray.empty, .string ByteArray.empty]), 6, 80) := by kernel_rfl
theorem sizeType : (Try.prog.info? 30).map (·.size) = some 6 := by kernel_rfl
set_option maxHeartbeats 2000000 in
theorem lToTypeB (t : TypeD) (a3 : Option Addr) (c3 : Nat) (w : World) (ht : t.wt ≤ 1048576) (h3 : Rows fieldS Any w a3 t.fFields) : Calls Try.prog 7 #[.agg #[.int .i64 t.fKind, .int .i64 t.fLong, .int .i64 t.fBase, .slice a3 t.fFields.length c3, .string t.fOwner, .string t.fName]] w fun e w' =>
    ∃ cs' : List Value, e = .returned (.agg cs'.toArray) ∧ typeS.At (fun b => w.heap.size ≤ b) w' cs' t ∧ Clean w.heap.size w' ∧ Below w.heap.size w w' := by
  have Q3 := Lib.hid h3
  clear h3
  have m3 : t.fFields.length ≤ 1048576 := by unfold TypeD.wt wtL at ht; omega
  have HB0 := Lib.hid (Below.refl w.heap.size w)
  go_enter Try.func7, Try.ntmps7
  go_wp2_with fail
  have HP3 := Lib.hid (show Below w.heap.size w (((w.alloc (.cells #[.int .i64 t.fKind, .int .i64 t.fLong, .int .i64 t.fBase, .slice a3 t.fFields.length c3, .string t.fOwner, .string t.fName] 24)).alloc (.cells #[.int .i64 0, .int .i64 0, .int .i64 0, .slice none 0 0, .string ByteArray.empty, .string ByteArray.empty] 30)).alloc (.cells #[.int .i64 t.fKind, .int .i64 t.fLong, .int .i64 t.fBase, .slice none 0 0, .string ByteArray.empty, .string ByteArray.empty] 30)) from (((Below.refl w.heap.size w).alloc (Nat.le_refl _) _).alloc (by simp) _).alloc (by simp; omega) _)
  refine (lToFieldSB a3 c3 t.fFields _ m3 (Q3.out.below ?_)).mono ?_
  · exact HP3.out
  rintro e w1 ⟨rfl, hr3, _, hcl1, hw1⟩
  have hA1 : Box w1 w.heap.size 24 #[.int .i64 t.fKind, .int .i64 t.fLong, .int .i64 t.fBase, .slice a3 t.fFields.length c3, .string t.fOwner, .string t.fName] := (((Box.new w _ _).alloc _).alloc _).below hw1 (by simp; omega)
  have hZ1 : Box w1 (w.heap.size + 1) 30 #[.int .i64 0, .int .i64 0, .int .i64 0, .slice none 0 0, .string ByteArray.empty, .string ByteArray.empty] := ((Box.new' (g := w.heap.size + 1) (w.alloc _) _ _ (by simp)).alloc _).below hw1 (by simp)
  have hO1 : Box w1 (w.heap.size + 2) 30 #[.int .i64 t.fKind, .int .i64 t.fLong, .int .i64 t.fBase, .slice none 0 0, .string ByteArray.empty, .string ByteArray.empty] := (Box.new' (g := w.heap.size + 2) ((w.alloc _).alloc _) _ _ (by simp)).below hw1 (by simp)
  simp only [World.size_alloc] at hr3
  have HR3 := Lib.hid (show Rows fieldS (fun b => w.heap.size + 3 ≤ b) w1 (some ⟨w.heap.size + 1 + 1 + 1, 0, none⟩) t.fFields from hr3)
  have HBe1 := Lib.hid (HP3.out.trans (hw1.mono HP3.out.size))
  have HCl1 := Lib.hid (Clean.join ((((Clean.refl w).alloc _ _).alloc _ _).alloc _ _) hw1 hcl1)
  clear hcl1
  have hS1 : w.heap.size + 3 ≤ w1.heap.size := by have := hw1.size; simp at this; omega
  have ca0 := hA1.cell 0
  have co0 := hO1.cell 0
  have ca1 := hA1.cell 1
  have co1 := hO1.cell 1
  have ca2 := hA1.cell 2
  have co2 := hO1.cell 2
  have ca3 := hA1.cell 3
  have co3 := hO1.cell 3
  have ca4 := hA1.cell 4
  have co4 := hO1.cell 4
  have ca5 := hA1.cell 5
  have co5 := hO1.cell 5
  simp at ca0 co0 ca1 co1 ca2 co2 ca3 co3 ca4 co4 ca5 co5
  have fo := hO1.free
  have fz := hZ1.free
  have cz0 := hZ1.cell 0
  have cz1 := hZ1.cell 1
  have cz2 := hZ1.cell 2
  have cz3 := hZ1.cell 3
  have cz4 := hZ1.cell 4
  have cz5 := hZ1.cell 5
  simp at cz0 cz1 cz2 cz3 cz4 cz5
  have HA1 := Lib.hid hA1
  have HZ1 := Lib.hid hZ1
  have HO1 := Lib.hid hO1
  clear hA1 hZ1 hO1 hr3 hw1
  go_wp2_with fail
  refine bodyPost_ret (results_one rfl Try.underlying30 rfl _ _ (w.heap.size + 1) #[.int .i64 t.fKind, .int .i64 t.fLong, .int .i64 t.fBase, .slice (some ⟨w.heap.size + 1 + 1 + 1, 0, none⟩) t.fFields.length t.fFields.length, .string t.fOwner, .string t.fName] rfl 30 ?qbox 6 sizeType rfl) rfl ?_
  case qbox => exact ((((((HZ1.out.only ((((Only.refl (w.heap.size + 2) w1).set 3 _).set 4 _).set 5 _) (by omega)).set 0 _).set 1 _).set 2 _).set 3 _).set 4 _).set 5 _
  have hab : Above (w.heap.size + 3) w1 ((((((((((w1).setCell ⟨w.heap.size + 2, 3, none⟩ (.slice (some ⟨w.heap.size + 1 + 1 + 1, 0, none⟩) t.fFields.length t.fFields.length)).setCell ⟨w.heap.size + 2, 4, none⟩ (.string t.fOwner)).setCell ⟨w.heap.size + 2, 5, none⟩ (.string t.fName)).setCell ⟨w.heap.size + 1, 0, none⟩ (.int .i64 t.fKind)).setCell ⟨w.heap.size + 1, 1, none⟩ (.int .i64 t.fLong)).setCell ⟨w.heap.size + 1, 2, none⟩ (.int .i64 t.fBase)).setCell ⟨w.heap.size + 1, 3, none⟩ (.slice (some ⟨w.heap.size + 1 + 1 + 1, 0, none⟩) t.fFields.length t.fFields.length)).setCell ⟨w.heap.size + 1, 4, none⟩ (.string t.fOwner)).setCell ⟨w.heap.size + 1, 5, none⟩ (.string t.fName)) := (((((((((Above.refl (w.heap.size + 3) w1).set (by omega) 3 _).set (by omega) 4 _).set (by omega) 5 _).set (by omega) 0 _).set (by omega) 1 _).set (by omega) 2 _).set (by omega) 3 _).set (by omega) 4 _).set (by omega) 5 _
  exact ⟨[.int .i64 t.fKind, .int .i64 t.fLong, .int .i64 t.fBase, .slice (some ⟨w.heap.size + 1 + 1 + 1, 0, none⟩) t.fFields.length t.fFields.length, .string t.fOwner, .string t.fName], rfl, ⟨_, _, rfl, Rows.mono (Q' := fun b => w.heap.size ≤ b) (HR3.out.keep hab.keep hab.size) (fun b h _ => by omega), Nat.le_refl _⟩, (((((((((HCl1.out).set _ _ _).set _ _ _).set _ _ _).set _ _ _).set _ _ _).set _ _ _).set _ _ _).set _ _ _).set _ _ _, (((((((((HBe1.out).setCell (by simp; omega) _).setCell (by simp; omega) _).setCell (by simp; omega) _).setCell (by simp) _).setCell (by simp) _).setCell (by simp) _).setCell (by simp) _).setCell (by simp) _).setCell (by simp) _⟩

theorem lToType (t : TypeD) (a3 : Option Addr) (c3 : Nat) (w : World) (ht : t.wt ≤ 1048576) (h3 : Rows fieldS Any w a3 t.fFields) : Calls Try.prog 7 #[.agg #[.int .i64 t.fKind, .int .i64 t.fLong, .int .i64 t.fBase, .slice a3 t.fFields.length c3, .string t.fOwner, .string t.fName]] w fun e w' =>
    ∃ cs' : List Value, e = .returned (.agg cs'.toArray) ∧ typeS.At (fun b => w.heap.size ≤ b) w' cs' t ∧ Below w.heap.size w w' :=
  (lToTypeB t a3 c3 w ht h3).mono fun _ _ ⟨cs, h1, h2, _, h4⟩ => ⟨cs, h1, h2, h4⟩

set_option maxHeartbeats 2000000 in
theorem lEqType (t : TypeD) (a3 a3' : Option Addr) (c3 c3' : Nat) (w : World) (ht : t.wt ≤ 1048576) (h3 : Rows fieldS Any w a3 t.fFields) (h3' : Rows fieldS Any w a3' t.fFields) : Calls Try.prog 9 #[.agg #[.int .i64 t.fKind, .int .i64 t.fLong, .int .i64 t.fBase, .slice a3 t.fFields.length c3, .string t.fOwner, .string t.fName], .agg #[.int .i64 t.fKind, .int .i64 t.fLong, .int .i64 t.fBase, .slice a3' t.fFields.length c3', .string t.fOwner, .string t.fName]] w fun e w' => e = .returned (.bool true) ∧ Below w.heap.size w w' := by
  have Q3 := Lib.hid h3
  have P3 := Lib.hid h3'
  clear h3 h3'
  have m3 : t.fFields.length ≤ 1048576 := by unfold TypeD.wt wtL at ht; omega
  have HP := Lib.hid (show Below w.heap.size w ((w.alloc (.cells #[.int .i64 t.fKind, .int .i64 t.fLong, .int .i64 t.fBase, .slice a3 t.fFields.length c3, .string t.fOwner, .string t.fName] 30)).alloc (.cells #[.int .i64 t.fKind, .int .i64 t.fLong, .int .i64 t.fBase, .slice a3' t.fFields.length c3', .string t.fOwner, .string t.fName] 30)) from ((Below.refl w.heap.size w).alloc (Nat.le_refl _) _).alloc (by simp) _)
  go_enter Try.func9, Try.ntmps9
  go_wp2_with fail
  refine (lEqFieldS a3 a3' c3 c3' t.fFields _ m3 (Q3.out.below HP.out) (P3.out.below HP.out)).mono ?_
  rintro e w1 ⟨rfl, hw1⟩
  have hA1 : Box w1 w.heap.size 30 #[.int .i64 t.fKind, .int .i64 t.fLong, .int .i64 t.fBase, .slice a3 t.fFields.length c3, .string t.fOwner, .string t.fName] := ((Box.new w _ _).alloc _).below hw1 (by simp only [World.size_alloc]; omega)
  have hZ1 : Box w1 (w.heap.size + 1) 30 #[.int .i64 t.fKind, .int .i64 t.fLong, .int .i64 t.fBase, .slice a3' t.fFields.length c3', .string t.fOwner, .string t.fName] := (Box.new' (g := w.heap.size + 1) (w.alloc _) _ _ (by simp)).below hw1 (by simp only [World.size_alloc]; omega)
  have HBe1 := Lib.hid (HP.out.trans (hw1.mono HP.out.size))
  have ca0 := hA1.cell 0
  have cz0 := hZ1.cell 0
  have ca1 := hA1.cell 1
  have cz1 := hZ1.cell 1
  have ca2 := hA1.cell 2
  have cz2 := hZ1.cell 2
  have ca3 := hA1.cell 3
  have cz3 := hZ1.cell 3
  have ca4 := hA1.cell 4
  have cz4 := hZ1.cell 4
  have ca5 := hA1.cell 5
  have cz5 := hZ1.cell 5
  simp at ca0 cz0 ca1 cz1 ca2 cz2 ca3 cz3 ca4 cz4 ca5 cz5
  clear hA1 hZ1 hw1
  go_wp2_with fail
  go_ret
  exact ⟨rfl, HBe1.out⟩

set_option maxHeartbeats 2000000 in
theorem lSzType (t : TypeD) (a3 : Option Addr) (c3 : Nat) (w : World) (left : Int) (h0 : 0 ≤ left) (h1 : left ≤ 1048576) (hcm : t.came) (h3 : Rows fieldS Any w a3 t.fFields) : Calls Try.prog 5 #[.agg #[.int .i64 t.fKind, .int .i64 t.fLong, .int .i64 t.fBase, .slice a3 t.fFields.length c3, .string t.fOwner, .string t.fName], .int .i64 left] w fun e w' =>
    ∃ r : Int, e = .returned (.int .i64 r) ∧ (r = -1 ∨ (0 ≤ r ∧ r = left - t.wt)) ∧ Below w.heap.size w w' := by
  unfold TypeD.came at hcm
  unfold maxLen at hcm
  obtain ⟨b0, b1, b2, b3, b4, b5⟩ := hcm
  clear b0 b1 b2
  have Q3 := Lib.hid h3
  clear h3
  obtain ⟨b3, bb3⟩ := b3
  have BB3 := Lib.hid bb3
  clear bb3
  have Hw : Hid (∀ r : Int, r = left - (((wtL FieldD.wt t.fFields : Nat) : Int) + (t.fOwner.size : Int) + (t.fName.size : Int) : Int) → r = left - (t.wt : Int)) := Lib.hid (by unfold TypeD.wt; intro r; push_cast; omega)
  have HB0 := Lib.hid (show Below w.heap.size w (w.alloc (.cells #[.int .i64 t.fKind, .int .i64 t.fLong, .int .i64 t.fBase, .slice a3 t.fFields.length c3, .string t.fOwner, .string t.fName] 24)) from (Below.refl w.heap.size w).alloc (Nat.le_refl _) _)
  go_enter Try.func5, Try.ntmps5
  go_wp2_with fail
  refine (lSzFieldS a3 c3 t.fFields _ (left) (by omega) (by omega) b3 BB3.out (Q3.out.below HB0.out)).mono ?_
  rintro e w1 ⟨r, rfl, hr, hw1⟩
  have hA1 : Box w1 w.heap.size 24 #[.int .i64 t.fKind, .int .i64 t.fLong, .int .i64 t.fBase, .slice a3 t.fFields.length c3, .string t.fOwner, .string t.fName] := (Box.new w _ _).below hw1 (by simp)
  have HBe1 := Lib.hid (HB0.out.trans (hw1.mono HB0.out.size))
  have ca0 := hA1.cell 0
  have ca1 := hA1.cell 1
  have ca2 := hA1.cell 2
  have ca3 := hA1.cell 3
  have ca4 := hA1.cell 4
  have ca5 := hA1.cell 5
  simp at ca0 ca1 ca2 ca3 ca4 ca5
  clear hA1 hw1
  rcases hr with rfl | ⟨hr0, rfl⟩
  · go_wp2_with fail
    go_ret
    exact ⟨-1, rfl, .inl rfl, HBe1.out⟩
  by_cases g4 : left - ((wtL FieldD.wt t.fFields : Nat) : Int) - (t.fOwner.size : Int) < 0
  · go_wp2_with fail
    go_ret
    exact ⟨-1, rfl, .inl rfl, HBe1.out⟩
  by_cases g5 : left - ((wtL FieldD.wt t.fFields : Nat) : Int) - (t.fOwner.size : Int) - (t.fName.size : Int) < 0
  · go_wp2_with fail
    go_ret
    exact ⟨-1, rfl, .inl rfl, HBe1.out⟩
  go_wp2_with fail
  go_ret
  exact ⟨_, rfl, .inr ⟨by omega, Hw.out _ (by omega)⟩, HBe1.out⟩

end Go.Proofs.Ytjhfjcindgaekaa
