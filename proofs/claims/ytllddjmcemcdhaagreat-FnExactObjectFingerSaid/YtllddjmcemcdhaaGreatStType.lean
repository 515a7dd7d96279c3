
/-
  What is proved: structs Type in memory: opened where they came in, counted, copied, compared, alone and in slices. No condition beside what each theorem states.
-/
import Derived.Test.YtllddjmcemcdhaaGreatNum
import Derived.Test.YtllddjmcemcdhaaGreatMem
import Derived.Test.YtllddjmcemcdhaaGreatMark
import Derived.Test.YtllddjmcemcdhaaGreatStField
import Derived.Deep.QuietTactic
import Derived.BigQuiet
import Derived.StillTailTactics
namespace Go.Proofs.YtllddjmcemcdhaaGreat
open Go.ChangeShapes Go.WideShapes Go.ChangeAt Go.RowKit

/-- Type as data. -/
structure TypeD where
  fKind : Int
  fLong : Int
  fBase : Int
  fFields : List FieldD
  fOwner : ByteArray
  fName : ByteArray

def typeAt (Q : Nat → Prop) (w : World) (cs : List Value) (t : TypeD) : Prop := ∃ (a3 : Option Addr) (c3 : Nat), cs = [.int .i64 t.fKind, .int .i64 t.fLong, .int .i64 t.fBase, .slice a3 t.fFields.length c3, .string t.fOwner, .string t.fName] ∧ (Rows fieldS Q w a3 t.fFields ∧ t.fFields.length ≤ c3)
/-- How one lies in memory. -/
def typeS : Shape TypeD where
  n := 6
  At := typeAt
  len h := by obtain ⟨a3, c3, rfl, h3⟩ := h; rfl
  keep h hb hs := by obtain ⟨a3, c3, rfl, h3⟩ := h; exact ⟨a3, c3, rfl, ⟨h3.1.keep hb hs, h3.2⟩⟩
  mono h hq := by obtain ⟨a3, c3, rfl, h3⟩ := h; exact ⟨a3, c3, rfl, ⟨h3.1.mono hq, h3.2⟩⟩

/-- What is known of one that came in. -/
def TypeD.came (t : TypeD) : Prop := (Lit.int .i64 t.fKind).wf = true ∧ (Lit.int .i64 t.fLong).wf = true ∧ (Lit.int .i64 t.fBase).wf = true ∧ (t.fFields.length ≤ maxLen ∧ ∀ x ∈ t.fFields, x.came) ∧ t.fOwner.size ≤ maxLen ∧ t.fName.size ≤ maxLen
/-- How much it holds. -/
def TypeD.wt (t : TypeD) : Nat := wtL FieldD.wt t.fFields + t.fOwner.size + t.fName.size

theorem cellsTypeL : Tryz.prog.cellsOf 90 = 6 := by kernel_rfl
theorem c1TypeSlField : Tryz.prog.cellsOf 88 = 1 := by kernel_rfl
theorem c1TypeInt : Tryz.prog.cellsOf 3 = 1 := by kernel_rfl
theorem c1TypeStr : Tryz.prog.cellsOf 9 = 1 := by kernel_rfl
theorem lenType {l : List Value} (h : l.length = 6) : ∃ e0 e1 e2 e3 e4 e5, l = [e0, e1, e2, e3, e4, e5] := by
  match l, h with
  | [e0, e1, e2, e3, e4, e5], _ => exact ⟨e0, e1, e2, e3, e4, e5, rfl⟩
theorem openType {H : Type} {enc : TypeId × Value → H} {w : World} {base : Nat} {spare : Nat → Bool} {held : Bool} (m : Nat) (cs : List Value) (x : DataW H × List MemPlace) (h : DataW.trod enc Tryz.prog w base spare held m 90 cs = some x) : ∃ t, typeS.At Any w cs t ∧ t.came := by
  obtain ⟨xs, n, rfl, _, hlen, hxs, hf⟩ := DataW.trod_struct Tryz.underlying90 h
  rw [cellsTypeL] at hlen
  obtain ⟨e0, e1, e2, e3, e4, e5, rfl⟩ := lenType hlen
  replace hxs : xs.length = 6 := hxs
  have h0 := hf 0 _ rfl
  change DataW.trod enc Tryz.prog w base spare held n 3 (List.take (Tryz.prog.cellsOf 3) [e0, e1, e2, e3, e4, e5]) = xs[0]? at h0
  rw [c1TypeInt, List.getElem?_eq_getElem (by omega)] at h0
  replace h0 : DataW.trod enc Tryz.prog w base spare held n 3 [e0] = _ := h0
  obtain ⟨v0, q0, _, k0⟩ := DataW.trod_int Tryz.underlying3 h0
  injection q0 with q0 _
  have h1 := hf 1 _ rfl
  change DataW.trod enc Tryz.prog w base spare held n 3 (List.take (Tryz.prog.cellsOf 3) [e1, e2, e3, e4, e5]) = xs[1]? at h1
  rw [c1TypeInt, List.getElem?_eq_getElem (by omega)] at h1
  replace h1 : DataW.trod enc Tryz.prog w base spare held n 3 [e1] = _ := h1
  obtain ⟨v1, q1, _, k1⟩ := DataW.trod_int Tryz.underlying3 h1
  injection q1 with q1 _
  have h2 := hf 2 _ rfl
  change DataW.trod enc Tryz.prog w base spare held n 3 (List.take (Tryz.prog.cellsOf 3) [e2, e3, e4, e5]) = xs[2]? at h2
  rw [c1TypeInt, List.getElem?_eq_getElem (by omega)] at h2
  replace h2 : DataW.trod enc Tryz.prog w base spare held n 3 [e2] = _ := h2
  obtain ⟨v2, q2, _, k2⟩ := DataW.trod_int Tryz.underlying3 h2
  injection q2 with q2 _
  have h3 := hf 3 _ rfl
  change DataW.trod enc Tryz.prog w base spare held n 88 (List.take (Tryz.prog.cellsOf 88) [e3, e4, e5]) = xs[3]? at h3
  rw [c1TypeSlField, List.getElem?_eq_getElem (by omega)] at h3
  replace h3 : DataW.trod enc Tryz.prog w base spare held n 88 [e3] = _ := h3
  obtain ⟨a3, c3, v3, q3, z3, k3, r3, s3⟩ := open_rows fieldS _ Tryz.underlying88 cellsFieldL (by decide) openField h3
  injection q3 with q3 _
  have h4 := hf 4 _ rfl
  change DataW.trod enc Tryz.prog w base spare held n 9 (List.take (Tryz.prog.cellsOf 9) [e4, e5]) = xs[4]? at h4
  rw [c1TypeStr, List.getElem?_eq_getElem (by omega)] at h4
  replace h4 : DataW.trod enc Tryz.prog w base spare held n 9 [e4] = _ := h4
  obtain ⟨v4, q4, _, k4⟩ := DataW.trod_string Tryz.underlying9 h4
  injection q4 with q4 _
  have h5 := hf 5 _ rfl
  change DataW.trod enc Tryz.prog w base spare held n 9 (List.take (Tryz.prog.cellsOf 9) [e5]) = xs[5]? at h5
  rw [c1TypeStr, List.getElem?_eq_getElem (by omega)] at h5
  replace h5 : DataW.trod enc Tryz.prog w base spare held n 9 [e5] = _ := h5
  obtain ⟨v5, q5, _, k5⟩ := DataW.trod_string Tryz.underlying9 h5
  injection q5 with q5 _
  subst q0 q1 q2 q3 q4 q5
  exact ⟨⟨v0, v1, v2, v3, v4, v5⟩, ⟨a3, c3, rfl, ⟨r3, z3⟩⟩, k0, k1, k2, ⟨k3, s3⟩, k4, k5⟩

theorem openTypeS {H : Type} {enc : TypeId × Value → H} {w : World} {base : Nat} {spare : Nat → Bool} {held : Bool} {a : Option Addr} {len cap : Nat} {d : DataW H} {p : List MemPlace}
    (h : ∃ fuel, DataW.trod enc Tryz.prog w base spare held fuel 23 (Value.slice a len cap).cells.toList = some (d, p)) : ∃ l : List TypeD, l.length = len ∧ len ≤ maxLen ∧ Rows typeS Any w a l ∧ ∀ t ∈ l, t.came :=
  open_whole typeS _ Tryz.underlying23 cellsTypeL (by decide) openType h

theorem infoType : (Tryz.prog.info? 110).map (fun i => (i.zero, i.size, i.bytes)) = some (some (.agg #[.int .i64 0, .int .i64 0, .int .i64 0, .slice none 0 0, .string ByteArray.empty, .string ByteArray.empty]), 6, 80) := by kernel_rfl
theorem sizeType : (Tryz.prog.info? 110).map (·.size) = some 6 := by kernel_rfl
theorem makeType (n : Nat) (W : World) (hn : n ≤ 1048576) : (Instr.makeSlice 31 (.int .i64 (n : Int)) (.int .i64 (n : Int))).run Tryz.prog W = .ok (.slice (some ⟨W.heap.size, 0, none⟩) n n) (W.alloc (.cells (madeCells #[.int .i64 0, .int .i64 0, .int .i64 0, .slice none 0 0, .string ByteArray.empty, .string ByteArray.empty] (n * 6)) 110)) := by
  obtain ⟨i0, hi0, hz0, hz1, hz2⟩ := info_parts infoType
  have := run_make (P := Tryz.prog) W 31 110 i0 _ Tryz.underlying31 hi0 hz0 .i64 .i64 (n : Int) (n : Int) (by omega) (by omega) (by rw [hz2]; omega) (by omega)
  rw [this, hz1]
  rfl

set_option maxHeartbeats 2000000 in
theorem lToTypeB (t : TypeD) (a3 : Option Addr) (c3 : Nat) (w : World) (ht : t.wt ≤ 1048576) (h3 : Rows fieldS Any w a3 t.fFields) : Calls Tryz.prog 47 #[.agg #[.int .i64 t.fKind, .int .i64 t.fLong, .int .i64 t.fBase, .slice a3 t.fFields.length c3, .string t.fOwner, .string t.fName]] w fun e w' =>
    ∃ cs' : List Value, e = .returned (.agg cs'.toArray) ∧ typeS.At (fun b => w.heap.size ≤ b) w' cs' t ∧ Clean w.heap.size w' ∧ Below w.heap.size w w' := by
  have Q3 := Lib.hid h3
  clear h3
  have m3 : t.fFields.length ≤ 1048576 := by unfold TypeD.wt wtL at ht; omega
  have HB0 := Lib.hid (Below.refl w.heap.size w)
  go_enter Tryz.func47, Tryz.ntmps47
  go_wp2_with fail
  have HP3 := Lib.hid (show Below w.heap.size w (((w.alloc (.cells #[.int .i64 t.fKind, .int .i64 t.fLong, .int .i64 t.fBase, .slice a3 t.fFields.length c3, .string t.fOwner, .string t.fName] 90)).alloc (.cells #[.int .i64 0, .int .i64 0, .int .i64 0, .slice none 0 0, .string ByteArray.empty, .string ByteArray.empty] 110)).alloc (.cells #[.int .i64 t.fKind, .int .i64 t.fLong, .int .i64 t.fBase, .slice none 0 0, .string ByteArray.empty, .string ByteArray.empty] 110)) from (((Below.refl w.heap.size w).alloc (Nat.le_refl _) _).alloc (by simp) _).alloc (by simp; omega) _)
  refine (lToFieldSB a3 c3 t.fFields _ m3 (Q3.out.below ?_)).mono ?_
  · exact HP3.out
  rintro e w1 ⟨rfl, hr3, _, hcl1, hw1⟩
  have hA1 : Box w1 w.heap.size 90 #[.int .i64 t.fKind, .int .i64 t.fLong, .int .i64 t.fBase, .slice a3 t.fFields.length c3, .string t.fOwner, .string t.fName] := (((Box.new w _ _).alloc _).alloc _).below hw1 (by simp; omega)
  have hZ1 : Box w1 (w.heap.size + 1) 110 #[.int .i64 0, .int .i64 0, .int .i64 0, .slice none 0 0, .string ByteArray.empty, .string ByteArray.empty] := ((Box.new' (g := w.heap.size + 1) (w.alloc _) _ _ (by simp)).alloc _).below hw1 (by simp)
  have hO1 : Box w1 (w.heap.size + 2) 110 #[.int .i64 t.fKind, .int .i64 t.fLong, .int .i64 t.fBase, .slice none 0 0, .string ByteArray.empty, .string ByteArray.empty] := (Box.new' (g := w.heap.size + 2) ((w.alloc _).alloc _) _ _ (by simp)).below hw1 (by simp)
  simp only [World.size_alloc] at hr3
  have HR3 := Lib.hid (show Rows fieldS (fun b => w.heap.size + 3 ≤ b) w1 (some ⟨w.heap.size + 1 + 1 + 1, 0, none⟩) t.fFields from hr3)
  have HBe1 := Lib.hid (HP3.out.trans (hw1.mono HP3.out.size))
  have HCl1 := Lib.hid (Clean.join ((((Clean.refl w).alloc _ _).alloc _ _).alloc _ _) hw1 hcl1)
  clear hcl1
  have hS1 : w.heap.size + 3 ≤ w1.heap.size := by have := hw1.size; simp at this; omega
  have ca0 := hA1.cell 0
  have co0 := hO1.cell 0
  have ca1 := hA1.cell 1
  have co1 := hO1.cell 1
  have ca2 := hA1.cell 2
  have co2 := hO1.cell 2
  have ca3 := hA1.cell 3
  have co3 := hO1.cell 3
  have ca4 := hA1.cell 4
  have co4 := hO1.cell 4
  have ca5 := hA1.cell 5
  have co5 := hO1.cell 5
  simp at ca0 co0 ca1 co1 ca2 co2 ca3 co3 ca4 co4 ca5 co5
  have fo := hO1.free
  have fz := hZ1.free
  have cz0 := hZ1.cell 0
  have cz1 := hZ1.cell 1
  have cz2 := hZ1.cell 2
  have cz3 := hZ1.cell 3
  have cz4 := hZ1.cell 4
  have cz5 := hZ1.cell 5
  simp at cz0 cz1 cz2 cz3 cz4 cz5
  have HA1 := Lib.hid hA1
  have HZ1 := Lib.hid hZ1
  have HO1 := Lib.hid hO1
  clear hA1 hZ1 hO1 hr3 hw1
  go_wp2_with fail
  refine bodyPost_ret (results_one rfl Tryz.underlying110 rfl _ _ (w.heap.size + 1) #[.int .i64 t.fKind, .int .i64 t.fLong, .int .i64 t.fBase, .slice (some ⟨w.heap.size + 1 + 1 + 1, 0, none⟩) t.fFields.length t.fFields.length, .string t.fOwner, .string t.fName] rfl 110 ?qbox 6 sizeType rfl) rfl ?_
  case qbox => exact ((((((HZ1.out.only ((((Only.refl (w.heap.size + 2) w1).set 3 _).set 4 _).set 5 _) (by omega)).set 0 _).set 1 _).set 2 _).set 3 _).set 4 _).set 5 _
  have hab : Above (w.heap.size + 3) w1 ((((((((((w1).setCell ⟨w.heap.size + 2, 3, none⟩ (.slice (some ⟨w.heap.size + 1 + 1 + 1, 0, none⟩) t.fFields.length t.fFields.length)).setCell ⟨w.heap.size + 2, 4, none⟩ (.string t.fOwner)).setCell ⟨w.heap.size + 2, 5, none⟩ (.string t.fName)).setCell ⟨w.heap.size + 1, 0, none⟩ (.int .i64 t.fKind)).setCell ⟨w.heap.size + 1, 1, none⟩ (.int .i64 t.fLong)).setCell ⟨w.heap.size + 1, 2, none⟩ (.int .i64 t.fBase)).setCell ⟨w.heap.size + 1, 3, none⟩ (.slice (some ⟨w.heap.size + 1 + 1 + 1, 0, none⟩) t.fFields.length t.fFields.length)).setCell ⟨w.heap.size + 1, 4, none⟩ (.string t.fOwner)).setCell ⟨w.heap.size + 1, 5, none⟩ (.string t.fName)) := (((((((((Above.refl (w.heap.size + 3) w1).set (by omega) 3 _).set (by omega) 4 _).set (by omega) 5 _).set (by omega) 0 _).set (by omega) 1 _).set (by omega) 2 _).set (by omega) 3 _).set (by omega) 4 _).set (by omega) 5 _
  exact ⟨[.int .i64 t.fKind, .int .i64 t.fLong, .int .i64 t.fBase, .slice (some ⟨w.heap.size + 1 + 1 + 1, 0, none⟩) t.fFields.length t.fFields.length, .string t.fOwner, .string t.fName], rfl, ⟨_, _, rfl, Rows.mono (Q' := fun b => w.heap.size ≤ b) (HR3.out.keep hab.keep hab.size) (fun b h _ => by omega), Nat.le_refl _⟩, (((((((((HCl1.out).set _ _ _).set _ _ _).set _ _ _).set _ _ _).set _ _ _).set _ _ _).set _ _ _).set _ _ _).set _ _ _, (((((((((HBe1.out).setCell (by simp; omega) _).setCell (by simp; omega) _).setCell (by simp; omega) _).setCell (by simp) _).setCell (by simp) _).setCell (by simp) _).setCell (by simp) _).setCell (by simp) _).setCell (by simp) _⟩

theorem lToType (t : TypeD) (a3 : Option Addr) (c3 : Nat) (w : World) (ht : t.wt ≤ 1048576) (h3 : Rows fieldS Any w a3 t.fFields) : Calls Tryz.prog 47 #[.agg #[.int .i64 t.fKind, .int .i64 t.fLong, .int .i64 t.fBase, .slice a3 t.fFields.length c3, .string t.fOwner, .string t.fName]] w fun e w' =>
    ∃ cs' : List Value, e = .returned (.agg cs'.toArray) ∧ typeS.At (fun b => w.heap.size ≤ b) w' cs' t ∧ Below w.heap.size w w' :=
  (lToTypeB t a3 c3 w ht h3).mono fun _ _ ⟨cs, h1, h2, _, h4⟩ => ⟨cs, h1, h2, h4⟩

set_option maxHeartbeats 2000000 in
theorem lToTypeSB (a : Option Addr) (c : Nat) (l : List TypeD) (w : World) (hl : l.length ≤ 1048576) (ht : ∀ x ∈ l, x.wt ≤ 1048576) (hr : Rows typeS Any w a l) :
    Calls Tryz.prog 21 #[.slice a l.length c] w fun e w' => e = .returned (.slice (some ⟨w.heap.size, 0, none⟩) l.length l.length) ∧ Rows typeS (fun b => w.heap.size ≤ b) w' (some ⟨w.heap.size, 0, none⟩) l ∧ (∃ arr, Box w' w.heap.size 110 arr ∧ arr.size = l.length * 6) ∧ Clean w.heap.size w' ∧ Below w.heap.size w w' := by
  have km := fun W => makeType l.length W hl
  have Hr := Lib.hid hr
  have Ht := Lib.hid ht
  clear ht
  clear hr
  go_enter Tryz.func21, Tryz.ntmps21
  go_wp2_with fail
  go_loopw [4] (fun i wr => ∃ (k : Nat) (arr : Array Value), i = .int .i64 k ∧ k ≤ l.length ∧ Box wr w.heap.size 110 arr ∧ arr.size = l.length * 6 ∧ Filled typeS (fun b => w.heap.size < b) wr arr l k ∧ Clean w.heap.size wr ∧ Below w.heap.size w wr) (fun i _ => l.length - (intOf i).toNat)
  case atStart => exact ⟨0, _, rfl, by omega, Box.new w _ _, size_madeCells _ _, Filled.zero, (Clean.refl w).alloc _ _, (Below.refl _ _).alloc (Nat.le_refl _) _⟩
  case round =>
    clear km
    obtain ⟨k, arr, rfl, hk, hb, hsz, hf, hcl, hbel⟩ := hrel
    have Hcl := Lib.hid hcl
    clear hcl
    by_cases hlt : k < l.length
    · obtain ⟨b, o, cs, rfl, _, hb1, hc1, hat⟩ := Hr.out k hlt
      obtain ⟨a3, c3, rfl, ⟨r3, _⟩⟩ := hat
      have hn : typeS.n = 6 := rfl
      have e0 := (hbel.cell (p := ⟨b, o + k * 6 + 0, none⟩) hb1).trans (hc1 0 (by decide))
      have e1 := (hbel.cell (p := ⟨b, o + k * 6 + 1, none⟩) hb1).trans (hc1 1 (by decide))
      have e2 := (hbel.cell (p := ⟨b, o + k * 6 + 2, none⟩) hb1).trans (hc1 2 (by decide))
      have e3 := (hbel.cell (p := ⟨b, o + k * 6 + 3, none⟩) hb1).trans (hc1 3 (by decide))
      have e4 := (hbel.cell (p := ⟨b, o + k * 6 + 4, none⟩) hb1).trans (hc1 4 (by decide))
      have e5 := (hbel.cell (p := ⟨b, o + k * 6 + 5, none⟩) hb1).trans (hc1 5 (by decide))
      simp at e0 e1 e2 e3 e4 e5
      have R3 := Lib.hid (r3.below hbel)
      have Hb := Lib.hid hb
      have Hf := Lib.hid hf
      have Hbel := Lib.hid hbel
      have Hst := Lib.hid (fun W arr cs => filled_store (S := typeS) (Q := fun b => w.heap.size < b) (w := W) (g := w.heap.size) (t := 110) (arr := arr) (cs := cs) hlt)
      have hwt := Ht.out l[k] (List.getElem_mem hlt)
      clear hb hf hbel hc1 r3
      generalize l[k] = t at *
      go_wp2_with fail
      refine (lToTypeB t a3 c3 wr hwt R3.out).mono ?_
      rintro e w1 ⟨cs', rfl, hat', hcl1, hw1⟩
      have HC1 := Lib.hid (Hcl.out.join hw1 hcl1)
      clear hcl1
      have HAT := Lib.hid (show typeS.At (fun b => w.heap.size < b) w1 cs' t from typeS.mono hat' (fun b h _ => Nat.lt_of_lt_of_le Hb.out.lt h))
      obtain ⟨a3', c3', rfl, _⟩ := hat'
      have hb2 := Hb.out.below hw1 Hb.out.lt
      have HB := Lib.hid hb2
      have f0 := hb2.free
      obtain ⟨x0, y0⟩ := hb2.some (i := k * 6) (by omega)
      obtain ⟨x1, y1⟩ := hb2.some (i := k * 6 + 1) (by omega)
      obtain ⟨x2, y2⟩ := hb2.some (i := k * 6 + 2) (by omega)
      obtain ⟨x3, y3⟩ := hb2.some (i := k * 6 + 3) (by omega)
      obtain ⟨x4, y4⟩ := hb2.some (i := k * 6 + 4) (by omega)
      obtain ⟨x5, y5⟩ := hb2.some (i := k * 6 + 5) (by omega)
      have HF := Lib.hid (Hf.out.keep (fun b _ hl => hw1.block b hl) hw1.size)
      have HBel := Lib.hid (Hbel.out.trans (hw1.mono Hbel.out.size))
      clear hw1 hb2 Hb Hf Hbel
      go_wp2_with fail
      obtain ⟨arr', hB', hs', hF', hO'⟩ := Hst.out w1 arr [.int .i64 t.fKind, .int .i64 t.fLong, .int .i64 t.fBase, .slice a3' t.fFields.length c3', .string t.fOwner, .string t.fName] HB.out hsz HF.out HAT.out (Nat.lt_irrefl _)
      exact ⟨⟨k + 1, arr', by congr 1, by omega, hB', hs', hF', Clean.setL (g := w.heap.size) [.int .i64 t.fKind, .int .i64 t.fLong, .int .i64 t.fBase, .slice a3' t.fFields.length c3', .string t.fOwner, .string t.fName] _ HC1.out, HBel.out.trans (hO'.below (Nat.le_refl _) HB.out.lt)⟩, by simp [intOf]; omega⟩
    · obtain rfl : k = l.length := by omega
      have Hb := Lib.hid hb
      have Hf := Lib.hid hf
      have Hbel := Lib.hid hbel
      clear hb hf hbel
      go_wp2_with fail
      go_ret
      exact ⟨rfl, (Hf.out.mono (fun _ h _ => Nat.le_of_lt h)).rows Hb.out (Nat.le_refl _), ⟨arr, Hb.out, hsz⟩, Hcl.out, Hbel.out⟩

theorem lToTypeS (a : Option Addr) (c : Nat) (l : List TypeD) (w : World) (hl : l.length ≤ 1048576) (ht : ∀ x ∈ l, x.wt ≤ 1048576) (hr : Rows typeS Any w a l) :
    Calls Tryz.prog 21 #[.slice a l.length c] w fun e w' => e = .returned (.slice (some ⟨w.heap.size, 0, none⟩) l.length l.length) ∧ Rows typeS (fun b => w.heap.size ≤ b) w' (some ⟨w.heap.size, 0, none⟩) l ∧ Below w.heap.size w w' :=
  (lToTypeSB a c l w hl ht hr).mono fun _ _ ⟨h1, h2, _, _, h4⟩ => ⟨h1, h2, h4⟩

set_option maxHeartbeats 2000000 in
theorem lEqType (t : TypeD) (a3 a3' : Option Addr) (c3 c3' : Nat) (w : World) (ht : t.wt ≤ 1048576) (h3 : Rows fieldS Any w a3 t.fFields) (h3' : Rows fieldS Any w a3' t.fFields) : Calls Tryz.prog 59 #[.agg #[.int .i64 t.fKind, .int .i64 t.fLong, .int .i64 t.fBase, .slice a3 t.fFields.length c3, .string t.fOwner, .string t.fName], .agg #[.int .i64 t.fKind, .int .i64 t.fLong, .int .i64 t.fBase, .slice a3' t.fFields.length c3', .string t.fOwner, .string t.fName]] w fun e w' => e = .returned (.bool true) ∧ Below w.heap.size w w' := by
  have Q3 := Lib.hid h3
  have P3 := Lib.hid h3'
  clear h3 h3'
  have m3 : t.fFields.length ≤ 1048576 := by unfold TypeD.wt wtL at ht; omega
  have HP := Lib.hid (show Below w.heap.size w ((w.alloc (.cells #[.int .i64 t.fKind, .int .i64 t.fLong, .int .i64 t.fBase, .slice a3 t.fFields.length c3, .string t.fOwner, .string t.fName] 110)).alloc (.cells #[.int .i64 t.fKind, .int .i64 t.fLong, .int .i64 t.fBase, .slice a3' t.fFields.length c3', .string t.fOwner, .string t.fName] 110)) from ((Below.refl w.heap.size w).alloc (Nat.le_refl _) _).alloc (by simp) _)
  go_enter Tryz.func59, Tryz.ntmps59
  go_wp2_with fail
  refine (lEqFieldS a3 a3' c3 c3' t.fFields _ m3 (Q3.out.below HP.out) (P3.out.below HP.out)).mono ?_
  rintro e w1 ⟨rfl, hw1⟩
  have hA1 : Box w1 w.heap.size 110 #[.int .i64 t.fKind, .int .i64 t.fLong, .int .i64 t.fBase, .slice a3 t.fFields.length c3, .string t.fOwner, .string t.fName] := ((Box.new w _ _).alloc _).below hw1 (by simp only [World.size_alloc]; omega)
  have hZ1 : Box w1 (w.heap.size + 1) 110 #[.int .i64 t.fKind, .int .i64 t.fLong, .int .i64 t.fBase, .slice a3' t.fFields.length c3', .string t.fOwner, .string t.fName] := (Box.new' (g := w.heap.size + 1) (w.alloc _) _ _ (by simp)).below hw1 (by simp only [World.size_alloc]; omega)
  have HBe1 := Lib.hid (HP.out.trans (hw1.mono HP.out.size))
  have ca0 := hA1.cell 0
  have cz0 := hZ1.cell 0
  have ca1 := hA1.cell 1
  have cz1 := hZ1.cell 1
  have ca2 := hA1.cell 2
  have cz2 := hZ1.cell 2
  have ca3 := hA1.cell 3
  have cz3 := hZ1.cell 3
  have ca4 := hA1.cell 4
  have cz4 := hZ1.cell 4
  have ca5 := hA1.cell 5
  have cz5 := hZ1.cell 5
  simp at ca0 cz0 ca1 cz1 ca2 cz2 ca3 cz3 ca4 cz4 ca5 cz5
  clear hA1 hZ1 hw1
  go_wp2_with fail
  go_ret
  exact ⟨rfl, HBe1.out⟩

set_option maxRecDepth 100000 in
set_option maxHeartbeats 2000000 in
theorem lEqTypeS (a a' : Option Addr) (c c' : Nat) (l : List TypeD) (w : World) (hl : l.length ≤ 1048576) (ht : ∀ x ∈ l, x.wt ≤ 1048576) (hr : Rows typeS Any w a l) (hr' : Rows typeS Any w a' l) :
    Calls Tryz.prog 28 #[.slice a l.length c, .slice a' l.length c'] w fun e w' => e = .returned (.bool true) ∧ Below w.heap.size w w' := by
  have Hr := Lib.hid hr
  have Hr' := Lib.hid hr'
  have Ht := Lib.hid ht
  clear ht
  clear hr hr'
  go_enter Tryz.func28, Tryz.ntmps28
  go_wp2_with fail
  go_loopw [5] (fun i wr => ∃ k : Nat, i = .int .i64 k ∧ k ≤ l.length ∧ Below w.heap.size w wr) (fun i _ => l.length - (intOf i).toNat)
  case atStart => exact ⟨0, rfl, by omega, Below.refl _ _⟩
  case round =>
    obtain ⟨k, rfl, hk, hbel⟩ := hrel
    by_cases hlt : k < l.length
    · obtain ⟨b, o, cs, rfl, _, hb1, hc1, hat⟩ := Hr.out k hlt
      obtain ⟨b', o', cs', rfl, _, hb1', hc1', hat'⟩ := Hr'.out k hlt
      obtain ⟨a3, c3, rfl, ⟨r3, _⟩⟩ := hat
      obtain ⟨a3', c3', rfl, ⟨r3', _⟩⟩ := hat'
      have hn : typeS.n = 6 := rfl
      have e0 := (hbel.cell (p := ⟨b, o + k * 6 + 0, none⟩) hb1).trans (hc1 0 (by decide))
      have q0 := (hbel.cell (p := ⟨b', o' + k * 6 + 0, none⟩) hb1').trans (hc1' 0 (by decide))
      have e1 := (hbel.cell (p := ⟨b, o + k * 6 + 1, none⟩) hb1).trans (hc1 1 (by decide))
      have q1 := (hbel.cell (p := ⟨b', o' + k * 6 + 1, none⟩) hb1').trans (hc1' 1 (by decide))
      have e2 := (hbel.cell (p := ⟨b, o + k * 6 + 2, none⟩) hb1).trans (hc1 2 (by decide))
      have q2 := (hbel.cell (p := ⟨b', o' + k * 6 + 2, none⟩) hb1').trans (hc1' 2 (by decide))
      have e3 := (hbel.cell (p := ⟨b, o + k * 6 + 3, none⟩) hb1).trans (hc1 3 (by decide))
      have q3 := (hbel.cell (p := ⟨b', o' + k * 6 + 3, none⟩) hb1').trans (hc1' 3 (by decide))
      have e4 := (hbel.cell (p := ⟨b, o + k * 6 + 4, none⟩) hb1).trans (hc1 4 (by decide))
      have q4 := (hbel.cell (p := ⟨b', o' + k * 6 + 4, none⟩) hb1').trans (hc1' 4 (by decide))
      have e5 := (hbel.cell (p := ⟨b, o + k * 6 + 5, none⟩) hb1).trans (hc1 5 (by decide))
      have q5 := (hbel.cell (p := ⟨b', o' + k * 6 + 5, none⟩) hb1').trans (hc1' 5 (by decide))
      simp at e0 q0 e1 q1 e2 q2 e3 q3 e4 q4 e5 q5
      have R3 := Lib.hid (r3.below hbel)
      have R3' := Lib.hid (r3'.below hbel)
      have hwt := Ht.out l[k] (List.getElem_mem hlt)
      have i1 : (0 : Int) ≤ (k : Int) := by omega
      have i2 : (k : Int) < (l.length : Int) := by omega
      have Hbel := Lib.hid hbel
      clear hbel hc1 hc1' Hr Hr' r3 r3'
      generalize l[k] = t at *
      go_wp2_with fail
      go_still_tail 8, (by kernel_rfl)
      go_wp2_with fail
      refine (lEqType t a3 a3' c3 c3' _ hwt R3.out.drew R3'.out.drew).mono ?_
      rintro e w1 ⟨rfl, hw1⟩
      go_wp2_with fail
      exact ⟨⟨k + 1, by congr 1, by omega, (belowN Hbel.out 1).trans (hw1.mono (Hbel.out.size))⟩, by simp [intOf]; omega⟩
    · go_wp2_with fail
      go_ret
      exact ⟨rfl, hbel⟩

set_option maxHeartbeats 2000000 in
theorem lSzType (t : TypeD) (a3 : Option Addr) (c3 : Nat) (w : World) (left : Int) (h0 : 0 ≤ left) (h1 : left ≤ 1048576) (hcm : t.came) (h3 : Rows fieldS Any w a3 t.fFields) : Calls Tryz.prog 36 #[.agg #[.int .i64 t.fKind, .int .i64 t.fLong, .int .i64 t.fBase, .slice a3 t.fFields.length c3, .string t.fOwner, .string t.fName], .int .i64 left] w fun e w' =>
    ∃ r : Int, e = .returned (.int .i64 r) ∧ (r = -1 ∨ (0 ≤ r ∧ r = left - t.wt)) ∧ Below w.heap.size w w' := by
  unfold TypeD.came at hcm
  unfold maxLen at hcm
  obtain ⟨b0, b1, b2, b3, b4, b5⟩ := hcm
  clear b0 b1 b2
  have Q3 := Lib.hid h3
  clear h3
  obtain ⟨b3, bb3⟩ := b3
  have BB3 := Lib.hid bb3
  clear bb3
  have Hw : Hid (∀ r : Int, r = left - (((wtL FieldD.wt t.fFields : Nat) : Int) + (t.fOwner.size : Int) + (t.fName.size : Int) : Int) → r = left - (t.wt : Int)) := Lib.hid (by unfold TypeD.wt; intro r; push_cast; omega)
  have HB0 := Lib.hid (show Below w.heap.size w (w.alloc (.cells #[.int .i64 t.fKind, .int .i64 t.fLong, .int .i64 t.fBase, .slice a3 t.fFields.length c3, .string t.fOwner, .string t.fName] 90)) from (Below.refl w.heap.size w).alloc (Nat.le_refl _) _)
  go_enter Tryz.func36, Tryz.ntmps36
  go_wp2_with fail
  refine (lSzFieldS a3 c3 t.fFields _ (left) (by omega) (by omega) b3 BB3.out (Q3.out.below HB0.out)).mono ?_
  rintro e w1 ⟨r, rfl, hr, hw1⟩
  have hA1 : Box w1 w.heap.size 90 #[.int .i64 t.fKind, .int .i64 t.fLong, .int .i64 t.fBase, .slice a3 t.fFields.length c3, .string t.fOwner, .string t.fName] := (Box.new w _ _).below hw1 (by simp)
  have HBe1 := Lib.hid (HB0.out.trans (hw1.mono HB0.out.size))
  have ca0 := hA1.cell 0
  have ca1 := hA1.cell 1
  have ca2 := hA1.cell 2
  have ca3 := hA1.cell 3
  have ca4 := hA1.cell 4
  have ca5 := hA1.cell 5
  simp at ca0 ca1 ca2 ca3 ca4 ca5
  clear hA1 hw1
  rcases hr with rfl | ⟨hr0, rfl⟩
  · go_wp2_with fail
    go_ret
    exact ⟨-1, rfl, .inl rfl, HBe1.out⟩
  by_cases g4 : left - ((wtL FieldD.wt t.fFields : Nat) : Int) - (t.fOwner.size : Int) < 0
  · go_wp2_with fail
    go_ret
    exact ⟨-1, rfl, .inl rfl, HBe1.out⟩
  by_cases g5 : left - ((wtL FieldD.wt t.fFields : Nat) : Int) - (t.fOwner.size : Int) - (t.fName.size : Int) < 0
  · go_wp2_with fail
    go_ret
    exact ⟨-1, rfl, .inl rfl, HBe1.out⟩
  go_wp2_with fail
  go_ret
  exact ⟨_, rfl, .inr ⟨by omega, Hw.out _ (by omega)⟩, HBe1.out⟩

set_option maxHeartbeats 2000000 in
theorem lSzTypeS (a : Option Addr) (c : Nat) (l : List TypeD) (w : World) (left : Int) (h0 : 0 ≤ left) (h1 : left ≤ 1048576) (hl : l.length ≤ maxLen) (hcm : ∀ t ∈ l, t.came) (hr : Rows typeS Any w a l) :
    Calls Tryz.prog 13 #[.slice a l.length c, .int .i64 left] w fun e w' => ∃ r : Int, e = .returned (.int .i64 r) ∧ (r = -1 ∨ (0 ≤ r ∧ r = left - ((wtL TypeD.wt l : Nat) : Int))) ∧ Below w.heap.size w w' := by
  have Hr := Lib.hid hr
  have Hcm := Lib.hid hcm
  clear hr hcm
  unfold maxLen at hl
  go_enter Tryz.func13, Tryz.ntmps13
  by_cases hn0 : left - (l.length : Int) < 0
  · go_wp2_with fail
    go_ret
    exact ⟨-1, rfl, .inl rfl, Below.refl _ _⟩
  go_wp2_with fail
  go_loopw [1, 5] (fun r i wr => ∃ k : Nat, i = .int .i64 k ∧ k ≤ l.length ∧ (∃ z : Int, r = .int .i64 z ∧ 0 ≤ z ∧ z = left - (l.length : Int) - ((wtK TypeD.wt l k : Nat) : Int)) ∧ Below w.heap.size w wr) (fun _ i _ => l.length - (intOf i).toNat)
  case atStart => exact ⟨0, rfl, by omega, ⟨_, rfl, by omega, by simp [wtK]⟩, Below.refl _ _⟩
  case round =>
    obtain ⟨k, rfl, hk, ⟨z, rfl, hz0, hz⟩, hbel⟩ := hrel
    by_cases hlt : k < l.length
    · obtain ⟨b, o, cs, rfl, _, hb1, hc1, hat⟩ := Hr.out k hlt
      obtain ⟨a3, c3, rfl, ⟨r3, _⟩⟩ := hat
      have hn : typeS.n = 6 := rfl
      have e0 := (hbel.cell (p := ⟨b, o + k * 6 + 0, none⟩) hb1).trans (hc1 0 (by decide))
      have e1 := (hbel.cell (p := ⟨b, o + k * 6 + 1, none⟩) hb1).trans (hc1 1 (by decide))
      have e2 := (hbel.cell (p := ⟨b, o + k * 6 + 2, none⟩) hb1).trans (hc1 2 (by decide))
      have e3 := (hbel.cell (p := ⟨b, o + k * 6 + 3, none⟩) hb1).trans (hc1 3 (by decide))
      have e4 := (hbel.cell (p := ⟨b, o + k * 6 + 4, none⟩) hb1).trans (hc1 4 (by decide))
      have e5 := (hbel.cell (p := ⟨b, o + k * 6 + 5, none⟩) hb1).trans (hc1 5 (by decide))
      simp at e0 e1 e2 e3 e4 e5
      have R3 := Lib.hid (r3.below hbel)
      have Hbel := Lib.hid hbel
      have Hc := Lib.hid (Hcm.out l[k] (List.getElem_mem hlt))
      have Hk := Lib.hid (wtK_succ TypeD.wt hlt)
      have Hz := Lib.hid hz
      have hz1 : z ≤ 1048576 := by omega
      clear hbel hc1 hz r3
      generalize l[k] = t at *
      go_wp2_with fail
      refine (lSzType t a3 c3 wr z hz0 hz1 Hc.out R3.out).mono ?_
      rintro e w1 ⟨r, rfl, hr, hw1⟩
      have HBel := Lib.hid (Hbel.out.trans (hw1.mono Hbel.out.size))
      clear hw1
      rcases hr with rfl | ⟨hr0, hr1⟩
      · go_wp2_with fail
        go_ret
        exact ⟨-1, rfl, .inl rfl, HBel.out⟩
      · have Hr1 := Lib.hid hr1
        clear hr1
        go_wp2_with fail
        exact ⟨⟨k + 1, by congr 1, by omega, ⟨r, rfl, hr0, by rw [Hk.out, Hr1.out, Hz.out]; push_cast; omega⟩, HBel.out⟩, by simp [intOf]; omega⟩
    · obtain rfl : k = l.length := by omega
      have Hz := Lib.hid hz
      have Hbel := Lib.hid hbel
      clear hz hbel
      go_wp2_with fail
      go_ret
      exact ⟨z, rfl, .inr ⟨hz0, by rw [Hz.out, wtK_all, wtL]; push_cast; omega⟩, Hbel.out⟩

end Go.Proofs.YtllddjmcemcdhaaGreat
