
/-
  What is proved: the contract of the model's TypeBytes; the walk of the law FnExactTypeBytes. No condition beside what each theorem states.
-/
import Derived.Test.YtjhfjcindgaekaaSTyp7
import Derived.Test.YtjhfjcindgaekaaWriteB
import Derived.Deep.RegionHeld3
namespace Go.Proofs.Ytjhfjcindgaekaa
open Go.ChangeShapes Go.WideShapes Go.ChangeAt Go.RowKit
set_option maxRecDepth 100000

abbrev typC (t : TypeD) (a : Option Addr) (c : Nat) : Array Value := #[.int .i64 t.fKind, .int .i64 t.fLong, .int .i64 t.fBase, .slice a t.fFields.length c, .string t.fOwner, .string t.fName]
theorem cells6y {w : World} {g : Nat} {t : TypeId} {c0 c1 c2 c3 c4 c5 : Value} (h : Box w g t #[c0, c1, c2, c3, c4, c5]) : w.cell? ⟨g, 0, none⟩ = some c0 ∧ w.cell? ⟨g, 1, none⟩ = some c1 ∧ w.cell? ⟨g, 2, none⟩ = some c2 ∧ w.cell? ⟨g, 3, none⟩ = some c3 ∧ w.cell? ⟨g, 4, none⟩ = some c4 ∧ w.cell? ⟨g, 5, none⟩ = some c5 := ⟨h.cell 0, h.cell 1, h.cell 2, h.cell 3, h.cell 4, h.cell 5⟩
/-- A type that came in. -/
theorem openOneType {H : Type} {enc : TypeId × Value → H} {w : World} {base : Nat} {spare : Nat → Bool} {held : Bool} {r : Go.Reach} {b : Nat} {v : Value} {d : DataW H} {p : List MemPlace} (hv : Value.okWide Try.prog w r b 24 v)
    (h : ∃ fuel, DataW.trod enc Try.prog w base spare held fuel 24 v.cells.toList = some (d, p)) : ∃ (t : TypeD) (a : Option Addr) (c : Nat), v = .agg (typC t a c) ∧ Rows fieldS Any w a t.fFields ∧ t.came := by
  obtain ⟨cs, rfl, _⟩ := okWide_struct Try.underlying24 hv
  obtain ⟨fuel, h⟩ := h
  obtain ⟨t, ⟨a, c, hc, hr, _⟩, hcm⟩ := openType fuel _ _ h
  exact ⟨t, a, c, congrArg Value.agg (Array.ext' hc), hr, hcm⟩
theorem typ_short {t : TypeD} (h : t.wt ≤ 1048576) : t.fFields.length ≤ 1048576 ∧ (∀ x ∈ t.fFields, x.fName.size ≤ maxLen) ∧ t.fOwner.size ≤ maxLen ∧ t.fName.size ≤ maxLen := by
  unfold TypeD.wt wtL at h
  refine ⟨by omega, fun p hp => ?_, by unfold maxLen; omega, by unfold maxLen; omega⟩
  have h4 := wt_mem FieldD.wt hp
  unfold FieldD.wt at h4 h
  unfold maxLen
  omega
noncomputable def typAns (t : TypeD) : ByteArray := if typeB t then typePart t else ByteArray.empty
theorem sTypeBytes (t : TypeD) (a : Option Addr) (c : Nat) (w : World) (hr : Rows fieldS Any w a t.fFields) (hl : t.fFields.length ≤ 1048576) (hn : ∀ x ∈ t.fFields, x.fName.size ≤ maxLen) (hno : t.fOwner.size ≤ maxLen) (hnm : t.fName.size ≤ maxLen) :
    Calls Try.prog 6 #[.agg (typC t a c)] w fun e w' => e = .returned (.tuple #[.string (typAns t), .bool (typeB t)]) ∧ Below w.heap.size w w' := by
  have B0 := Lib.hid ((Below.refl w.heap.size w).alloc (Nat.le_refl _) (.cells (typC t a c) 30))
  have X0 := Lib.hid (Box.new w 30 (typC t a c))
  have Hr := Lib.hid (hr.below B0.out)
  have HF := Lib.hid (sTypeFits t a c _ hl Hr.out hn hno hnm)
  have HO := Lib.hid (fun W hW hok => sl7Type t a c W hW hok)
  clear hr hn
  go_enter Try.func6, Try.ntmps6
  go_wp2_with fail
  refine HF.out.mono ?_
  rintro e w1 ⟨rfl, hb⟩
  have B1 := Lib.hid (B0.out.trans (hb.mono B0.out.size))
  have X1 := Lib.hid (X0.out.below hb X0.out.lt)
  have R1 := Lib.hid (Hr.out.below hb)
  clear hb HF B0 X0 Hr
  cases hq : typeB t
  · have HA := Lib.hid (show typAns t = ⟨#[]⟩ by unfold typAns; rw [if_neg (by rw [hq]; decide)]; rfl)
    have HQ := Lib.hid hq
    clear HO hq
    go_wp2_with fail
    go_ret2
    exact ⟨by rw [HA.out, HQ.out]; rfl, B1.out⟩
  · have HA := Lib.hid (show typAns t = typePart t by unfold typAns; rw [if_pos hq])
    have HP := Lib.hid (fun W hW => HO.out W hW hq)
    have HQ := Lib.hid hq
    clear HO hq
    have x0 : _ = some (Value.int .i64 t.fKind) := X1.out.cell 0
    have x1 : _ = some (Value.int .i64 t.fLong) := X1.out.cell 1
    have x2 : _ = some (Value.int .i64 t.fBase) := X1.out.cell 2
    have x3 : _ = some (Value.slice a t.fFields.length c) := X1.out.cell 3
    have x4 : _ = some (Value.string t.fOwner) := X1.out.cell 4
    have x5 : _ = some (Value.string t.fName) := X1.out.cell 5
    go_wp2_with fail
    refine (HP.out _ R1.out).mono ?_
    rintro e w2 ⟨rfl, hb⟩
    have B2 := Lib.hid (B1.out.trans (hb.mono B1.out.size))
    clear hb x0 x1 x2 x3 x4 x5
    go_wp2_with fail
    go_ret2
    exact ⟨by rw [HA.out, HQ.out]; rfl, B2.out⟩

-- shell: FnExactTypeBytes
set_option maxHeartbeats 8000000 in
theorem law_FnExactTypeBytes (t : TypeD) (a : Option Addr) (c : Nat) (w : World) (hin : Rows fieldS Any w a t.fFields ∧ t.came) :
    Calls Try.prog 3 #[.agg (typC t a c)] w fun e w' => e = .returned (.bool true) ∧ Below w.heap.size w w' := by
  obtain ⟨hr, hc⟩ := hin
  have B0 := Lib.hid ((Below.refl w.heap.size w).alloc (Nat.le_refl _) (.cells (typC t a c) 24))
  have X0 := Lib.hid (Box.new w 24 (typC t a c))
  have R0 := Lib.hid (hr.below B0.out)
  have Hsz := Lib.hid (lSzType t a c _ 1048576 (by omega) (by omega) hc R0.out)
  clear hr hc
  go_enter Try.func3, Try.ntmps3
  go_wp2_with fail
  refine Hsz.out.mono ?_
  rintro e w1 ⟨r, rfl, hs, hb1⟩
  have B1 := Lib.hid (B0.out.trans (hb1.mono B0.out.size))
  have X1 := Lib.hid (X0.out.below hb1 X0.out.lt)
  have R1 := Lib.hid (R0.out.below hb1)
  clear hb1 Hsz R0 B0 X0
  rcases hs with rfl | ⟨h0, h1⟩
  · go_wp2_with fail
    go_ret
    exact ⟨rfl, B1.out⟩
  have hwt : t.wt ≤ 1048576 := by omega
  obtain ⟨hl, hn, hno, hnm⟩ := typ_short hwt
  have HN := Lib.hid hn
  clear h1 hn
  have Si := Lib.hid (fun a' c' W (hW : Rows fieldS Any W a' t.fFields) => iTypeBytes t a' c' W (by omega) hW HN.out hno hnm)
  have Ss := Lib.hid (fun a' c' W (hW : Rows fieldS Any W a' t.fFields) => sTypeBytes t a' c' W hW hl HN.out hno hnm)
  have hA : typAns t = if typeB t then typePart t else ByteArray.empty := rfl
  rw [← hA] at Si
  clear hA
  generalize typAns t = qa at *
  generalize typeB t = qb at *
  obtain ⟨x0, x1, x2, x3, x4, x5⟩ := cells6y X1.out
  go_wp2_with fail
  clear x0 x1 x2 x3 x4 x5
  refine (lToType t a c w1 hwt R1.out).mono ?_
  rintro e w2 ⟨cs, rfl, ⟨a2, c2, rfl, hr2, _⟩, hb2⟩
  have B2 := Lib.hid (B1.out.trans (hb2.mono B1.out.size))
  have X2 := Lib.hid (X1.out.below hb2 X1.out.lt)
  have R2 := Lib.hid (R1.out.below hb2)
  have P2 := Lib.hid hr2.any
  clear hb2 hr2 B1 X1 R1
  go_wp2_with fail
  refine (Ss.out a2 c2 _ P2.out).mono ?_
  rintro e w3 ⟨rfl, hb3⟩
  have B3 := Lib.hid (B2.out.trans (hb3.mono B2.out.size))
  have X3 := Lib.hid (X2.out.below hb3 X2.out.lt)
  have R3 := Lib.hid (R2.out.below hb3)
  clear hb3 B2 X2 R2 P2 Ss
  obtain ⟨x0, x1, x2, x3, x4, x5⟩ := cells6y X3.out
  go_wp2_with fail
  clear x0 x1 x2 x3 x4 x5
  refine (lToType t a c w3 hwt R3.out).mono ?_
  rintro e w4 ⟨cs, rfl, ⟨a4, c4, rfl, hr4, _⟩, hb4⟩
  have hb34 := B3.out.trans (hb4.mono B3.out.size)
  have hal := (Below.refl w4.heap.size w4).alloc (Nat.le_refl _) (.cells (typC t a4 c4) 30)
  have B4 := Lib.hid (hb34.alloc hb34.size (.cells (typC t a4 c4) 30))
  have X4 := Lib.hid ((X3.out.below hb4 X3.out.lt).below hal (X3.out.below hb4 X3.out.lt).lt)
  have Y4 := Lib.hid (Box.new w4 30 (typC t a4 c4))
  have R4 := Lib.hid ((R3.out.below hb4).below hal)
  have Q4 := Lib.hid (hr4.any.below hal)
  clear hb4 hr4 hal hb34 B3 X3 R3
  go_wp2_with fail
  obtain ⟨g, hgg⟩ : ∃ n, n = w4.heap.size := ⟨_, rfl⟩
  rw [← hgg] at Y4
  rw [← hgg]
  clear hgg
  generalize w4.alloc (.cells (typC t a4 c4) 30) = v4 at *
  obtain ⟨y0, y1, y2, y3, y4, y5⟩ := cells6y Y4.out
  go_wp2_with fail
  clear y0 y1 y2 y3 y4 y5
  refine (Si.out a4 c4 _ Q4.out).mono ?_
  rintro e w5 ⟨rfl, hb5⟩
  have B5 := Lib.hid (B4.out.trans (hb5.mono B4.out.size))
  have X5 := Lib.hid (X4.out.below hb5 X4.out.lt)
  have Y5 := Lib.hid (Y4.out.below hb5 Y4.out.lt)
  have R5 := Lib.hid (R4.out.below hb5).drew
  have Q5 := Lib.hid (Q4.out.below hb5).drew
  have g5 := Y5.out.lt
  have l5 := X5.out.lt
  clear hb5 B4 X4 Y4 R4 Q4 Si
  have e1 : (qb != qb) = false := bne_self_eq_false' _
  obtain ⟨x0, x1, x2, x3, x4, x5⟩ := cells6y X5.out
  obtain ⟨y0, y1, y2, y3, y4, y5⟩ := cells6y Y5.out
  go_wp2_with fail
  go_region_held3 (fun w' => w'.cell? ⟨w.heap.size, 0, none⟩ = some (.int .i64 t.fKind) ∧ w'.cell? ⟨w.heap.size, 1, none⟩ = some (.int .i64 t.fLong) ∧ w'.cell? ⟨w.heap.size, 2, none⟩ = some (.int .i64 t.fBase) ∧ w'.cell? ⟨w.heap.size, 3, none⟩ = some (.slice a t.fFields.length c) ∧ w'.cell? ⟨w.heap.size, 4, none⟩ = some (.string t.fOwner) ∧ w'.cell? ⟨w.heap.size, 5, none⟩ = some (.string t.fName) ∧ w'.cell? ⟨g, 0, none⟩ = some (.int .i64 t.fKind) ∧ w'.cell? ⟨g, 1, none⟩ = some (.int .i64 t.fLong) ∧ w'.cell? ⟨g, 2, none⟩ = some (.int .i64 t.fBase) ∧ w'.cell? ⟨g, 3, none⟩ = some (.slice a4 t.fFields.length c4) ∧ w'.cell? ⟨g, 4, none⟩ = some (.string t.fOwner) ∧ w'.cell? ⟨g, 5, none⟩ = some (.string t.fName))
    (first
      | exact ⟨x0, x1, x2, x3, x4, x5, y0, y1, y2, y3, y4, y5⟩
      | (go_split_ands
         refine ⟨?_, ?_, ?_, ?_, ?_, ?_, ?_, ?_, ?_, ?_, ?_, ?_⟩ <;> (rw [hbu.cell (by simp at *; omega)]; assumption))
      | (go_split_ands
         refine ⟨?_, ?_, ?_, ?_, ?_, ?_, ?_, ?_, ?_, ?_, ?_, ?_⟩ <;> (rw [hbt.cell (by simp at *; omega)]; assumption)))
    (first
      | (go_at_call 7; refine (lToType t a c _ hwt R5.out).mono ?_; rintro e wt ⟨ct, rfl, ⟨at5, ct5, rfl, ht, _⟩, hbt⟩; have hsz := hbt.size)
      | (go_at_call 9; refine (lEqType t a4 at5 _ _ _ hwt (Q5.out.below hbt) ht.any).mono ?_; rintro e wu ⟨rfl, hbu⟩))
  have hbx := (Below.refl w5.heap.size w5).drew.trans (hbt.trans (hbu.mono hbt.size))
  clear x0 x1 x2 x3 x4 x5 y0 y1 y2 y3 y4 y5
  go_wp2_with fail
  go_ret
  exact ⟨rfl, B5.out.trans (hbx.mono B5.out.size)⟩
end Go.Proofs.Ytjhfjcindgaekaa
