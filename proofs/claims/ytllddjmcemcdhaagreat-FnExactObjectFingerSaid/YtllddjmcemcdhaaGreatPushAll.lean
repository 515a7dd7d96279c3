
/-
  What is proved: contracts of the program's partsOf and insideOf; a contract of the model's l3Parts; it tells what insideOf does, for types that are shaped; rows of numbers, read; a contract of the model's l1Has; append of a row of numbers to one that the call owns, also where there is nothing to append; a contract of the model's l1Own; a contract of slices.Clone for numbers. No condition beside what each theorem states.
-/
import Derived.Test.YtllddjmcemcdhaaGreatSFields
import Derived.Test.YtllddjmcemcdhaaGreatIFields
import Derived.Maps.AppendAt
import Derived.Deep.Upon
import Derived.Lib.LazyBuf
namespace Go.Proofs.YtllddjmcemcdhaaGreat
open Go.ChangeShapes Go.WideShapes Go.ChangeAt Go.RowKit

theorem infoInt : (Tryz.prog.info? 3).map (fun i => (i.zero, i.size, i.bytes)) = some (some (.int .i64 0), 1, 8) := by kernel_rfl
def OwnInts (w : World) (B : Nat) (v : Value) (l : List Int) : Prop := w.ownsRow B 3 1 v l.length (l.map (Value.int .i64))
theorem OwnInts.nil {w : World} {B : Nat} : OwnInts w B (.slice none 0 0) [] := World.ownsRow_nil _ _ _ _
theorem OwnInts.alloc {w : World} {B : Nat} {v : Value} {l : List Int} (h : OwnInts w B v l) (o : Obj) : OwnInts (w.alloc o) B v l := World.ownsRow.alloc h o

theorem OwnInts.lower {w : World} {B B' : Nat} {v : Value} {l : List Int} (h : OwnInts w B v l) (hB : B' ≤ B) : OwnInts w B' v l :=
  ⟨h.1, h.2.imp id (fun ⟨g, cap, cur, h1, h2, h3⟩ => ⟨g, cap, cur, h1, Nat.le_trans hB h2, h3⟩)⟩

/-- append of one number to a row of numbers that the call owns. -/
theorem wpList_pushInt {ops : Array Oper} {rest : List Oper} {o : Oper} {a : Act} {Q : Exit → Act → World → Prop} (hgd : o.guard = none) (s x : Operand)
    (ho : o.op = .call { callee := .builtin .append, args := #[s, x], argTypes := #[48, 48] })
    (B : Nat) (w : World) (v : Value) (l : List Int) (hs : a.eval s = v) (hown : OwnInts w B v l) (u : Int) (g : Nat) (hx : a.eval x = .slice (some ⟨g, 0, none⟩) 1 1) (hg : g = w.heap.size)
    (h63 : l.length + 1 ≤ 1048577 + 1048576) (hbase : B ≤ w.heap.size)
    (h : ∀ v' w', OwnInts w' B v' (l ++ [u]) → w.grownBy w' v.ownBlock → (∀ k, v.ownBlock = some k → B ≤ k ∧ k < w.heap.size) → wpList Tryz.prog ops Q rest (a.put o.dst v') w') : wpList Tryz.prog ops Q (o :: rest) a (w.alloc (.cells #[.int .i64 u] 3)) := by
  subst hg
  obtain ⟨i0, hi, hz0, hz1, hz2⟩ := info_parts infoInt
  exact wpList_append_own _ hgd s x 48 ho B 3 i0 (.int .i64 0) 1 8 Tryz.underlying48 hi hz0 hz1 hz2 rfl (by decide) v l.length (l.map (Value.int .i64)) hs (hown.alloc _) ⟨w.heap.size, 0, none⟩ 1 1 [.int .i64 u] hx rfl (cell_one_new _ _ _)
    (fun y hy => by rw [List.mem_singleton.1 hy]; rfl) (by unfold maxLen; omega) (by omega) (by simp; omega) (fun v' w' h1 h2 _ => h v' w' (by unfold OwnInts; simpa using h1) ⟨h2.os, h2.tape, h2.output, by have := h2.size; simp at this; omega, fun k hk hn => (h2.block k (by simp; omega) hn).trans (Below.heap_alloc w _ k hk)⟩ (World.ownsRow.lt hown))

def partsTo (p : List Int) (fs : List FieldD) (k : Nat) : List Int := p ++ (fs.map FieldD.fType).take k
theorem partsTo_zero (p : List Int) (fs : List FieldD) : partsTo p fs 0 = p := by simp [partsTo]
theorem partsTo_all (p : List Int) (fs : List FieldD) : partsTo p fs fs.length = p ++ fs.map FieldD.fType := by unfold partsTo; rw [List.take_of_length_le (by simp)]
theorem partsTo_next {fs : List FieldD} {k : Nat} (h : k < fs.length) (p : List Int) : partsTo p fs k ++ [fs[k].fType] = partsTo p fs (k + 1) := by
  unfold partsTo
  rw [List.take_succ_eq_append_getElem (by simpa using h), List.append_assoc]
  simp
theorem partsTo_len {fs : List FieldD} {k : Nat} (p : List Int) : (partsTo p fs k).length ≤ p.length + fs.length := by
  unfold partsTo
  simp
  omega

set_option maxRecDepth 100000 in
set_option maxHeartbeats 4000000 in
theorem iPartsOf (t : TypeD) (a3 : Option Addr) (c3 : Nat) (w : World) (hn : t.fFields.length ≤ 1048576) (hr : Rows fieldS Any w a3 t.fFields) :
    Calls Tryz.prog 122 #[.agg #[.int .i64 t.fKind, .int .i64 t.fLong, .int .i64 t.fBase, .slice a3 t.fFields.length c3, .string t.fOwner, .string t.fName]] w fun e w' => ∃ v, e = .returned v ∧ OwnInts w' w.heap.size v (partsD t) ∧ Below w.heap.size w w' := by
  obtain ⟨kd, lg, bs, fs, ow, nm⟩ := t
  have Hr := Lib.hid hr
  clear hr
  simp only at hn
  by_cases h : bs = -1
  · subst h
    have Hp := Lib.hid (show partsD ⟨kd, lg, -1, fs, ow, nm⟩ = [] ++ fs.map FieldD.fType from rfl)
    go_enter Tryz.func122, Tryz.ntmps122
    go_wp2_with fail
    go_loopw [17, 3] (fun i v wr => ∃ k : Nat, i = .int .i64 k ∧ k ≤ fs.length ∧ OwnInts wr w.heap.size v (partsTo ([] : List Int) fs k) ∧ Below w.heap.size w wr) (fun i _ _ => fs.length - (intOf i).toNat)
    case atStart => exact ⟨0, rfl, by omega, by rw [partsTo_zero]; exact OwnInts.nil, (Below.refl _ _).alloc (Nat.le_refl _) _⟩
    case round =>
      rename_i wr v
      obtain ⟨k, rfl, hk, hown, hbel⟩ := hrel
      have Hown := Lib.hid hown
      clear hown
      by_cases hlt : k < fs.length
      · obtain ⟨b, o, cs, rfl, _, hb1, hc1, hat⟩ := Hr.out k hlt
        obtain rfl : cs = [.string fs[k].fName, .int .i64 fs[k].fMark, .int .i64 fs[k].fType] := hat
        have hn3 : fieldS.n = 3 := rfl
        have e0 := (hbel.cell (p := ⟨b, o + k * 3 + 0, none⟩) hb1).trans (hc1 0 (by decide))
        have e1 := (hbel.cell (p := ⟨b, o + k * 3 + 1, none⟩) hb1).trans (hc1 1 (by decide))
        have e2 := (hbel.cell (p := ⟨b, o + k * 3 + 2, none⟩) hb1).trans (hc1 2 (by decide))
        simp at e0 e1 e2
        have hsz := hbel.size
        have Hbel := Lib.hid hbel
        have Htk := Lib.hid (partsTo_next hlt ([] : List Int))
        clear hbel hc1
        generalize fs[k] = f at *
        go_wp2_with (at_builtin; refine wpList_pushInt rfl _ _ rfl w.heap.size _ _ (partsTo ([] : List Int) fs k) rfl (Hown.out.alloc _) _ _ rfl (by simp) ?c1 ?c2 ?_)
        case c1 => have := partsTo_len (fs := fs) (k := k) ([] : List Int); simp only [List.length_nil] at this; omega
        case c2 => simp; omega
        intro v' w1 hown1 hg1 hlt1
        have Hb1 := Lib.hid ((Hbel.out.alloc hsz _).grown hg1 (by simp; omega) (fun k hk => (hlt1 k hk).1))
        have Ho1 := Lib.hid (Htk.out ▸ hown1)
        clear hown1 hg1 hlt1
        go_wp2_with fail
        exact ⟨⟨k + 1, by congr 1, by omega, Ho1.out, Hb1.out⟩, by simp [intOf]; omega⟩
      · have Hz := Lib.hid (show partsTo ([] : List Int) fs k = ([] : List Int) ++ fs.map FieldD.fType by rw [show k = fs.length by omega]; exact partsTo_all _ _)
        have Hbel := Lib.hid hbel
        clear hbel
        go_wp2_with fail
        go_ret
        exact ⟨_, rfl, by rw [Hp.out]; exact Hz.out ▸ Hown.out, Hbel.out⟩
  · have Hp := Lib.hid (show partsD ⟨kd, lg, bs, fs, ow, nm⟩ = [bs] ++ fs.map FieldD.fType by unfold partsD; simp [h])
    have h2 : (bs == -1) = false := beq_eq_false_iff_ne.2 h
    have h3 : (bs != -1) = true := bne_iff_ne.2 h
    have h4 : decide (bs = -1) = false := decide_eq_false h
    go_enter Tryz.func122, Tryz.ntmps122
    go_wp2_with (at_builtin; refine wpList_pushInt rfl _ _ rfl w.heap.size _ _ [] rfl OwnInts.nil _ _ rfl (by simp) (by simp) (by simp) ?_)
    intro v0 w0 hown0 hg0 hlt0
    have Hb0 := Lib.hid (((Below.refl w.heap.size w).alloc (Nat.le_refl _) _).grown hg0 (by simp) (fun k hk => (hlt0 k hk).1))
    have Ho0 := Lib.hid hown0
    have HT := Lib.hid (hg0.block w.heap.size (by simp) (by simp [Value.ownBlock]))
    have q0 : w0.cell? ⟨w.heap.size, 3, none⟩ = some (.slice a3 fs.length c3) := by
      rw [World.cell?_of_block (w := w.alloc (.cells #[.int .i64 kd, .int .i64 lg, .int .i64 bs, .slice a3 fs.length c3, .string ow, .string nm] 110)) HT.out]
      simp
    clear hown0 hg0 hlt0
    go_wp2_with fail
    go_loopw [17, 3] (fun i v wr => ∃ k : Nat, i = .int .i64 k ∧ k ≤ fs.length ∧ OwnInts wr w.heap.size v (partsTo [bs] fs k) ∧ Below w.heap.size w wr) (fun i _ _ => fs.length - (intOf i).toNat)
    case atStart => exact ⟨0, rfl, by omega, by rw [partsTo_zero]; exact Ho0.out, Hb0.out⟩
    case round =>
      rename_i wr v
      obtain ⟨k, rfl, hk, hown, hbel⟩ := hrel
      have Hown := Lib.hid hown
      clear hown
      by_cases hlt : k < fs.length
      · obtain ⟨b, o, cs, rfl, _, hb1, hc1, hat⟩ := Hr.out k hlt
        obtain rfl : cs = [.string fs[k].fName, .int .i64 fs[k].fMark, .int .i64 fs[k].fType] := hat
        have hn3 : fieldS.n = 3 := rfl
        have e0 := (hbel.cell (p := ⟨b, o + k * 3 + 0, none⟩) hb1).trans (hc1 0 (by decide))
        have e1 := (hbel.cell (p := ⟨b, o + k * 3 + 1, none⟩) hb1).trans (hc1 1 (by decide))
        have e2 := (hbel.cell (p := ⟨b, o + k * 3 + 2, none⟩) hb1).trans (hc1 2 (by decide))
        simp at e0 e1 e2
        have hsz := hbel.size
        have Hbel := Lib.hid hbel
        have Htk := Lib.hid (partsTo_next hlt [bs])
        clear hbel hc1
        generalize fs[k] = f at *
        go_wp2_with (at_builtin; refine wpList_pushInt rfl _ _ rfl w.heap.size _ _ (partsTo [bs] fs k) rfl (Hown.out.alloc _) _ _ rfl (by simp) ?c1 ?c2 ?_)
        case c1 => have := partsTo_len (fs := fs) (k := k) [bs]; simp only [List.length_singleton] at this; omega
        case c2 => simp; omega
        intro v' w1 hown1 hg1 hlt1
        have Hb1 := Lib.hid ((Hbel.out.alloc hsz _).grown hg1 (by simp; omega) (fun k hk => (hlt1 k hk).1))
        have Ho1 := Lib.hid (Htk.out ▸ hown1)
        clear hown1 hg1 hlt1
        go_wp2_with fail
        exact ⟨⟨k + 1, by congr 1, by omega, Ho1.out, Hb1.out⟩, by simp [intOf]; omega⟩
      · have Hz := Lib.hid (show partsTo [bs] fs k = [bs] ++ fs.map FieldD.fType by rw [show k = fs.length by omega]; exact partsTo_all _ _)
        have Hbel := Lib.hid hbel
        clear hbel
        go_wp2_with fail
        go_ret
        exact ⟨_, rfl, by rw [Hp.out]; exact Hz.out ▸ Hown.out, Hbel.out⟩

theorem iInsideOf (t : TypeD) (a3 : Option Addr) (c3 : Nat) (w : World) (hn : t.fFields.length ≤ 1048576) (hr : Rows fieldS Any w a3 t.fFields) :
    Calls Tryz.prog 104 #[.agg #[.int .i64 t.fKind, .int .i64 t.fLong, .int .i64 t.fBase, .slice a3 t.fFields.length c3, .string t.fOwner, .string t.fName]] w fun e w' => ∃ v, e = .returned v ∧ OwnInts w' w.heap.size v (insideD t) ∧ Below w.heap.size w w' := by
  have Hr := Lib.hid (hr.below ((Below.refl w.heap.size w).alloc (Nat.le_refl _) (.cells #[.int .i64 t.fKind, .int .i64 t.fLong, .int .i64 t.fBase, .slice a3 t.fFields.length c3, .string t.fOwner, .string t.fName] 110)))
  clear hr
  by_cases h : t.fKind = 6
  · have Hv := Lib.hid (show insideD t = [] from if_pos h)
    go_enter Tryz.func104, Tryz.ntmps104
    go_wp2_with fail
    go_ret
    exact ⟨_, rfl, by rw [Hv.out]; exact OwnInts.nil, (Below.refl _ _).alloc (Nat.le_refl _) _⟩
  · have Hv := Lib.hid (show insideD t = partsD t from if_neg h)
    have h2 : (t.fKind == 6) = false := beq_eq_false_iff_ne.2 h
    have h4 : decide (t.fKind = 6) = false := decide_eq_false h
    go_enter Tryz.func104, Tryz.ntmps104
    go_wp2_with (go_at_call 122; refine (iPartsOf t a3 c3 _ hn Hr.out).mono ?_)
    rintro e w1 ⟨v, rfl, ho, hb⟩
    have Ho := Lib.hid ho
    have Hb := Lib.hid hb
    clear ho hb
    go_wp2_with fail
    go_ret
    exact ⟨_, rfl, by rw [Hv.out]; exact Ho.out.lower (by simp), (((Below.refl w.heap.size w).alloc (Nat.le_refl _) _).trans (Hb.out.mono (by simp)))⟩
end Go.Proofs.YtllddjmcemcdhaaGreat

namespace Go.Proofs.YtllddjmcemcdhaaGreat
open Go.ChangeShapes Go.WideShapes Go.ChangeAt Go.RowKit

def mPartsD (t : TypeD) : List Int := (if 0 ≤ t.fBase ∧ t.fKind ≠ 6 then [t.fBase] else []) ++ t.fFields.map FieldD.fType
theorem mParts_typeOk {l : List TypeD} {t : TypeD} (h : typeOk l t) : mPartsD t = insideD t := by
  unfold mPartsD insideD partsD
  rcases h.2 with ⟨k, _, ⟨b0, _⟩, f⟩ | ⟨k, _, b, _⟩ | ⟨k, _, _, f⟩
  · rw [if_pos ⟨b0, by omega⟩, if_neg (by omega), if_neg (by omega)]
  · rw [if_neg (show ¬ t.fKind = 6 by omega)]
    rcases b with b | b
    · rw [if_neg (by omega), if_pos b]
    · have hb : 0 ≤ t.fBase := by
        unfold kindZ at b
        split at b
        · rename_i h; exact h.1
        · omega
      rw [if_pos ⟨hb, by omega⟩, if_neg (by omega)]
  · rw [if_pos k, if_neg (by omega), List.eq_nil_of_length_eq_zero f]
    rfl
theorem mParts_base {k : Nat} (hk : k < 3) {t : TypeD} (h : baseLike k t) : mPartsD t = insideD t := by
  obtain ⟨h1, _, h2, h3, _⟩ := h
  unfold mPartsD insideD partsD
  rw [if_neg (by omega), if_neg (by omega), if_pos h2]

set_option maxRecDepth 100000 in
set_option maxHeartbeats 4000000 in
theorem sl3Parts (t : TypeD) (a3 : Option Addr) (c3 : Nat) (w : World) (hn : t.fFields.length ≤ 1048576) (hr : Rows fieldS Any w a3 t.fFields) :
    Calls Tryz.prog 94 #[.agg #[.int .i64 t.fKind, .int .i64 t.fLong, .int .i64 t.fBase, .slice a3 t.fFields.length c3, .string t.fOwner, .string t.fName]] w fun e w' => ∃ v, e = .returned v ∧ OwnInts w' w.heap.size v (mPartsD t) ∧ Below w.heap.size w w' := by
  obtain ⟨kd, lg, bs, fs, ow, nm⟩ := t
  have Hr := Lib.hid hr
  clear hr
  simp only at hn
  by_cases h : bs < 0
  · have Hp := Lib.hid (show mPartsD ⟨kd, lg, bs, fs, ow, nm⟩ = [] ++ fs.map FieldD.fType by unfold mPartsD; rw [if_neg (fun q => by have := q.1; simp only at this; omega)])
    have h2 : ¬ (0 : Int) ≤ bs := by omega
    have h3 : decide ((0 : Int) ≤ bs) = false := decide_eq_false h2
    go_enter Tryz.func94, Tryz.ntmps94
    go_wp2_with fail
    go_loopw [22, 3] (fun i v wr => ∃ k : Nat, i = .int .i64 k ∧ k ≤ fs.length ∧ OwnInts wr w.heap.size v (partsTo ([] : List Int) fs k) ∧ Below w.heap.size w wr) (fun i _ _ => fs.length - (intOf i).toNat)
    case atStart => exact ⟨0, rfl, by omega, by rw [partsTo_zero]; exact OwnInts.nil, (Below.refl _ _).alloc (Nat.le_refl _) _⟩
    case round =>
      rename_i wr v
      obtain ⟨k, rfl, hk, hown, hbel⟩ := hrel
      have Hown := Lib.hid hown
      clear hown
      by_cases hlt : k < fs.length
      · obtain ⟨b, o, cs, rfl, _, hb1, hc1, hat⟩ := Hr.out k hlt
        obtain rfl : cs = [.string fs[k].fName, .int .i64 fs[k].fMark, .int .i64 fs[k].fType] := hat
        have hn3 : fieldS.n = 3 := rfl
        have e0 := (hbel.cell (p := ⟨b, o + k * 3 + 0, none⟩) hb1).trans (hc1 0 (by decide))
        have e1 := (hbel.cell (p := ⟨b, o + k * 3 + 1, none⟩) hb1).trans (hc1 1 (by decide))
        have e2 := (hbel.cell (p := ⟨b, o + k * 3 + 2, none⟩) hb1).trans (hc1 2 (by decide))
        simp at e0 e1 e2
        have hsz := hbel.size
        have Hbel := Lib.hid hbel
        have Htk := Lib.hid (partsTo_next hlt ([] : List Int))
        clear hbel hc1
        generalize fs[k] = f at *
        go_wp2_with (at_builtin; refine wpList_pushInt rfl _ _ rfl w.heap.size _ _ (partsTo ([] : List Int) fs k) rfl (Hown.out.alloc _) _ _ rfl (by simp) ?c1 ?c2 ?_)
        case c1 => have := partsTo_len (fs := fs) (k := k) ([] : List Int); simp only [List.length_nil] at this; omega
        case c2 => simp; omega
        intro v' w1 hown1 hg1 hlt1
        have Hb1 := Lib.hid ((Hbel.out.alloc hsz _).grown hg1 (by simp; omega) (fun k hk => (hlt1 k hk).1))
        have Ho1 := Lib.hid (Htk.out ▸ hown1)
        clear hown1 hg1 hlt1
        go_wp2_with fail
        exact ⟨⟨k + 1, by congr 1, by omega, Ho1.out, Hb1.out⟩, by simp [intOf]; omega⟩
      · have Hz := Lib.hid (show partsTo ([] : List Int) fs k = ([] : List Int) ++ fs.map FieldD.fType by rw [show k = fs.length by omega]; exact partsTo_all _ _)
        have Hbel := Lib.hid hbel
        clear hbel
        go_wp2_with fail
        go_ret
        exact ⟨_, rfl, by rw [Hp.out]; exact Hz.out ▸ Hown.out, Hbel.out⟩
  have h2 : (0 : Int) ≤ bs := by omega
  have h3 : decide ((0 : Int) ≤ bs) = true := decide_eq_true h2
  by_cases h6 : kd = 6
  · subst h6
    have Hp := Lib.hid (show mPartsD ⟨6, lg, bs, fs, ow, nm⟩ = [] ++ fs.map FieldD.fType by unfold mPartsD; rw [if_neg (fun q => q.2 rfl)])
    go_enter Tryz.func94, Tryz.ntmps94
    go_wp2_with fail
    go_loopw [22, 3] (fun i v wr => ∃ k : Nat, i = .int .i64 k ∧ k ≤ fs.length ∧ OwnInts wr w.heap.size v (partsTo ([] : List Int) fs k) ∧ Below w.heap.size w wr) (fun i _ _ => fs.length - (intOf i).toNat)
    case atStart => exact ⟨0, rfl, by omega, by rw [partsTo_zero]; exact OwnInts.nil, (Below.refl _ _).alloc (Nat.le_refl _) _⟩
    case round =>
      rename_i wr v
      obtain ⟨k, rfl, hk, hown, hbel⟩ := hrel
      have Hown := Lib.hid hown
      clear hown
      by_cases hlt : k < fs.length
      · obtain ⟨b, o, cs, rfl, _, hb1, hc1, hat⟩ := Hr.out k hlt
        obtain rfl : cs = [.string fs[k].fName, .int .i64 fs[k].fMark, .int .i64 fs[k].fType] := hat
        have hn3 : fieldS.n = 3 := rfl
        have e0 := (hbel.cell (p := ⟨b, o + k * 3 + 0, none⟩) hb1).trans (hc1 0 (by decide))
        have e1 := (hbel.cell (p := ⟨b, o + k * 3 + 1, none⟩) hb1).trans (hc1 1 (by decide))
        have e2 := (hbel.cell (p := ⟨b, o + k * 3 + 2, none⟩) hb1).trans (hc1 2 (by decide))
        simp at e0 e1 e2
        have hsz := hbel.size
        have Hbel := Lib.hid hbel
        have Htk := Lib.hid (partsTo_next hlt ([] : List Int))
        clear hbel hc1
        generalize fs[k] = f at *
        go_wp2_with (at_builtin; refine wpList_pushInt rfl _ _ rfl w.heap.size _ _ (partsTo ([] : List Int) fs k) rfl (Hown.out.alloc _) _ _ rfl (by simp) ?c1 ?c2 ?_)
        case c1 => have := partsTo_len (fs := fs) (k := k) ([] : List Int); simp only [List.length_nil] at this; omega
        case c2 => simp; omega
        intro v' w1 hown1 hg1 hlt1
        have Hb1 := Lib.hid ((Hbel.out.alloc hsz _).grown hg1 (by simp; omega) (fun k hk => (hlt1 k hk).1))
        have Ho1 := Lib.hid (Htk.out ▸ hown1)
        clear hown1 hg1 hlt1
        go_wp2_with fail
        exact ⟨⟨k + 1, by congr 1, by omega, Ho1.out, Hb1.out⟩, by simp [intOf]; omega⟩
      · have Hz := Lib.hid (show partsTo ([] : List Int) fs k = ([] : List Int) ++ fs.map FieldD.fType by rw [show k = fs.length by omega]; exact partsTo_all _ _)
        have Hbel := Lib.hid hbel
        clear hbel
        go_wp2_with fail
        go_ret
        exact ⟨_, rfl, by rw [Hp.out]; exact Hz.out ▸ Hown.out, Hbel.out⟩
  · have Hp := Lib.hid (show mPartsD ⟨kd, lg, bs, fs, ow, nm⟩ = [bs] ++ fs.map FieldD.fType by unfold mPartsD; rw [if_pos ⟨h2, h6⟩])
    have h4 : (kd == 6) = false := beq_eq_false_iff_ne.2 h6
    have h5 : (kd != 6) = true := bne_iff_ne.2 h6
    have h7 : decide (kd = 6) = false := decide_eq_false h6
    go_enter Tryz.func94, Tryz.ntmps94
    go_wp2_with (at_builtin; refine wpList_pushInt rfl _ _ rfl w.heap.size _ _ [] rfl OwnInts.nil _ _ rfl (by simp) (by simp) (by simp) ?_)
    intro v0 w0 hown0 hg0 hlt0
    have Hb0 := Lib.hid (((Below.refl w.heap.size w).alloc (Nat.le_refl _) _).grown hg0 (by simp) (fun k hk => (hlt0 k hk).1))
    have Ho0 := Lib.hid hown0
    have HT := Lib.hid (hg0.block w.heap.size (by simp) (by simp [Value.ownBlock]))
    have q0 : w0.cell? ⟨w.heap.size, 3, none⟩ = some (.slice a3 fs.length c3) := by
      rw [World.cell?_of_block (w := w.alloc (.cells #[.int .i64 kd, .int .i64 lg, .int .i64 bs, .slice a3 fs.length c3, .string ow, .string nm] 110)) HT.out]
      simp
    clear hown0 hg0 hlt0
    go_wp2_with fail
    go_loopw [22, 3] (fun i v wr => ∃ k : Nat, i = .int .i64 k ∧ k ≤ fs.length ∧ OwnInts wr w.heap.size v (partsTo [bs] fs k) ∧ Below w.heap.size w wr) (fun i _ _ => fs.length - (intOf i).toNat)
    case atStart => exact ⟨0, rfl, by omega, by rw [partsTo_zero]; exact Ho0.out, Hb0.out⟩
    case round =>
      rename_i wr v
      obtain ⟨k, rfl, hk, hown, hbel⟩ := hrel
      have Hown := Lib.hid hown
      clear hown
      by_cases hlt : k < fs.length
      · obtain ⟨b, o, cs, rfl, _, hb1, hc1, hat⟩ := Hr.out k hlt
        obtain rfl : cs = [.string fs[k].fName, .int .i64 fs[k].fMark, .int .i64 fs[k].fType] := hat
        have hn3 : fieldS.n = 3 := rfl
        have e0 := (hbel.cell (p := ⟨b, o + k * 3 + 0, none⟩) hb1).trans (hc1 0 (by decide))
        have e1 := (hbel.cell (p := ⟨b, o + k * 3 + 1, none⟩) hb1).trans (hc1 1 (by decide))
        have e2 := (hbel.cell (p := ⟨b, o + k * 3 + 2, none⟩) hb1).trans (hc1 2 (by decide))
        simp at e0 e1 e2
        have hsz := hbel.size
        have Hbel := Lib.hid hbel
        have Htk := Lib.hid (partsTo_next hlt [bs])
        clear hbel hc1
        generalize fs[k] = f at *
        go_wp2_with (at_builtin; refine wpList_pushInt rfl _ _ rfl w.heap.size _ _ (partsTo [bs] fs k) rfl (Hown.out.alloc _) _ _ rfl (by simp) ?c1 ?c2 ?_)
        case c1 => have := partsTo_len (fs := fs) (k := k) [bs]; simp only [List.length_singleton] at this; omega
        case c2 => simp; omega
        intro v' w1 hown1 hg1 hlt1
        have Hb1 := Lib.hid ((Hbel.out.alloc hsz _).grown hg1 (by simp; omega) (fun k hk => (hlt1 k hk).1))
        have Ho1 := Lib.hid (Htk.out ▸ hown1)
        clear hown1 hg1 hlt1
        go_wp2_with fail
        exact ⟨⟨k + 1, by congr 1, by omega, Ho1.out, Hb1.out⟩, by simp [intOf]; omega⟩
      · have Hz := Lib.hid (show partsTo [bs] fs k = [bs] ++ fs.map FieldD.fType by rw [show k = fs.length by omega]; exact partsTo_all _ _)
        have Hbel := Lib.hid hbel
        clear hbel
        go_wp2_with fail
        go_ret
        exact ⟨_, rfl, by rw [Hp.out]; exact Hz.out ▸ Hown.out, Hbel.out⟩
end Go.Proofs.YtllddjmcemcdhaaGreat

namespace Go.Proofs.YtllddjmcemcdhaaGreat
open Go.ChangeShapes Go.WideShapes Go.ChangeAt Go.RowKit

/-- The numbers of a slice lie at an address. -/
def Nums (w : World) (a : Option Addr) (l : List Int) : Prop := ∀ i (h : i < l.length), ∃ b o, a = some ⟨b, o, none⟩ ∧ b < w.heap.size ∧ w.cell? ⟨b, o + i, none⟩ = some (.int .i64 l[i])
theorem Nums.below {w w' : World} {a : Option Addr} {l : List Int} (h : Nums w a l) (hb : Below w.heap.size w w') : Nums w' a l := fun i hi => by
  obtain ⟨b, o, e, h1, h2⟩ := h i hi
  exact ⟨b, o, e, Nat.lt_of_lt_of_le h1 hb.size, (hb.cell h1).trans h2⟩
theorem OwnInts.nums {w : World} {B : Nat} {v : Value} {l : List Int} (h : OwnInts w B v l) : ∃ a c, v = .slice a l.length c ∧ l.length ≤ c ∧ Nums w a l := by
  rcases h.2 with ⟨rfl, h0⟩ | ⟨g, cap, cur, rfl, hb, hg, hc, hm, hs, ht⟩
  · have : l = [] := List.eq_nil_of_length_eq_zero h0
    subst this
    exact ⟨none, 0, rfl, Nat.le_refl _, fun i hi => absurd hi (by simp)⟩
  · refine ⟨some ⟨g, 0, none⟩, cap, rfl, hc, fun i hi => ⟨g, 0, rfl, (Array.getElem?_eq_some_iff.1 hg).1, ?_⟩⟩
    have := World.ownsRow.cells h (g := g) rfl i (.int .i64 l[i]) (by simp [hi])
    have hadd : (⟨g, 0, none⟩ : Addr).add i = ⟨g, 0 + i, none⟩ := by unfold Addr.add; split <;> simp_all
    rw [← hadd]
    exact this

theorem has_yes {l : List Int} {k : Nat} (h : k < l.length) : decide (l[k] ∈ l) = true := by simp
theorem has_no {l : List Int} {n : Int} (h : ∀ j (hj : j < l.length), l[j] ≠ n) : decide (n ∈ l) = false := by
  refine decide_eq_false (fun hm => ?_)
  obtain ⟨j, hj, e⟩ := List.getElem_of_mem hm
  exact h j hj e

set_option maxHeartbeats 2000000 in
theorem sl1Has (a : Option Addr) (c : Nat) (l : List Int) (n : Int) (w : World) (hl : l.length ≤ 1048576) (hr : Nums w a l) :
    Calls Tryz.prog 92 #[.slice a l.length c, .int .i64 n] w fun e w' => e = .returned (.bool (decide (n ∈ l))) ∧ w = w' := by
  have Hr := Lib.hid hr
  clear hr
  generalize hd : decide (n ∈ l) = d
  have Hd := Lib.hid hd
  clear hd
  go_enter Tryz.func92, Tryz.ntmps92
  go_wp2_with fail
  go_loop [9] (fun i => ∃ k : Nat, i = .int .i64 k ∧ k ≤ l.length ∧ ∀ j (hj : j < l.length), j < k → l[j] ≠ n) (fun i => l.length - (intOf i).toNat)
  case atStart => exact ⟨0, rfl, by omega, fun j _ hj => absurd hj (by omega)⟩
  case round =>
    obtain ⟨k, rfl, hk, hno⟩ := hrel
    have Hno := Lib.hid hno
    clear hno
    by_cases hlt : k < l.length
    · obtain ⟨b, o, rfl, _, e0⟩ := Hr.out k hlt
      by_cases he : l[k] = n
      · have Hy := Lib.hid (has_yes hlt)
        rw [he] at e0 Hy
        clear he
        go_wp2_with fail
        go_ret
        exact ⟨by rw [← Hd.out, Hy.out]; rfl, rfl⟩
      · have Hno' := Lib.hid (show ∀ j (hj : j < l.length), j < k + 1 → l[j] ≠ n from fun j hj hjk => by
          by_cases e : j = k
          · subst e; exact he
          · exact Hno.out j hj (by omega))
        have h2 : (l[k] == n) = false := beq_eq_false_iff_ne.2 he
        clear he
        generalize l[k] = z at *
        go_wp2_with fail
        go_round
        case rel => exact ⟨k + 1, by go_num, by omega, Hno'.out⟩
        case measure => simp [intOf]; omega
    · have Hn := Lib.hid (has_no (n := n) (fun j hj => Hno.out j hj (by omega)))
      go_wp2_with fail
      go_ret
      exact ⟨by rw [← Hd.out, Hn.out]; rfl, rfl⟩
end Go.Proofs.YtllddjmcemcdhaaGreat

namespace Go.Proofs.YtllddjmcemcdhaaGreat
open Go.ChangeShapes Go.WideShapes Go.ChangeAt Go.RowKit

theorem add_off (b o i : Nat) : (⟨b, o, none⟩ : Addr).add i = ⟨b, o + i, none⟩ := by unfold Addr.add; split <;> simp_all
theorem grownBy_same (w : World) (row : Option Nat) : w.grownBy w row := ⟨rfl, rfl, rfl, Nat.le_refl _, fun _ _ _ => rfl⟩

theorem wpList_pushAll {ops : Array Oper} {rest : List Oper} {o : Oper} {a : Act} {Q : Exit → Act → World → Prop} (hgd : o.guard = none) (s x : Operand)
    (ho : o.op = .call { callee := .builtin .append, args := #[s, x], argTypes := #[48, 48] })
    (B : Nat) (w : World) (v : Value) (l : List Int) (hs : a.eval s = v) (hown : OwnInts w B v l) (m : List Int) (ao : Option Addr) (c : Nat) (hx : a.eval x = .slice ao m.length c) (hN : Nums w ao m)
    (h63 : l.length + m.length ≤ 1048577 + 1048576) (hbase : B ≤ w.heap.size)
    (h : ∀ v' w', OwnInts w' B v' (l ++ m) → w.grownBy w' v.ownBlock → (∀ k, v.ownBlock = some k → B ≤ k ∧ k < w.heap.size) → wpList Tryz.prog ops Q rest (a.put o.dst v') w') : wpList Tryz.prog ops Q (o :: rest) a w := by
  obtain ⟨i0, hi, hz0, hz1, hz2⟩ := info_parts infoInt
  have hlt := World.ownsRow.lt hown
  cases ao with
  | some ad =>
    refine wpList_append_own _ hgd s x 48 ho B 3 i0 (.int .i64 0) 1 8 Tryz.underlying48 hi hz0 hz1 hz2 rfl (by decide) v l.length (l.map (Value.int .i64)) hs hown ad m.length c (m.map (Value.int .i64)) hx (by simp) ?_
      (fun y hy => by obtain ⟨z, _, rfl⟩ := List.mem_map.1 hy; rfl) (by unfold maxLen; omega) (by omega) hbase (fun v' w' h1 h2 _ => h v' w' (by unfold OwnInts; simpa using h1) h2 hlt)
    intro j u hu
    rw [List.getElem?_map] at hu
    by_cases hj : j < m.length
    · obtain ⟨b, o', e, _, e2⟩ := hN j hj
      cases e
      rw [List.getElem?_eq_getElem hj] at hu
      cases hu
      rw [add_off]
      exact e2
    · rw [List.getElem?_eq_none (by omega)] at hu
      cases hu
  | none =>
    have hm : m = [] := by
      cases m with
      | nil => rfl
      | cons y m =>
        obtain ⟨b, o', e, _⟩ := hN 0 (by simp)
        cases e
    subst hm
    obtain ⟨ba, cc, hv, hc, _⟩ := hown.nums
    refine wpList_plain hgd fun _ hK => ?_
    have hr := run_append_nothing (P := Tryz.prog) w 48 48 o.type 3 i0 Tryz.underlying48 hi ba l.length cc hc (.slice none 0 c) (Src.ofNil _ Tryz.underlying48 c)
    unfold Oper.wp execOp
    simp only [ho, resolve, invoke, builtin, Sem.run_bind, Sem.run_pure, Result.andThen_ok, List.map_toArray, List.map_cons, List.map_nil, hs, hv, hx, List.length_nil, hr]
    exact hK _ _ (h _ w (by rw [List.append_nil, ← hv]; exact hown) (grownBy_same _ _) hlt)

theorem OwnInts.made (w : World) {B : Nat} (hB : B ≤ w.heap.size) : OwnInts (w.alloc (.cells #[] 3)) B (.slice (some ⟨w.heap.size, 0, none⟩) 0 0) [] := World.ownsRow_made (base := B) w #[] 0 hB (by decide) (by simp)

theorem sl1Own (a : Option Addr) (c : Nat) (l : List Int) (w : World) (hl : l.length ≤ 1048576) (hr : Nums w a l) :
    Calls Tryz.prog 46 #[.slice a l.length c] w fun e w' => ∃ v, e = .returned v ∧ OwnInts w' w.heap.size v l ∧ Below w.heap.size w w' := by
  have Hr := Lib.hid (hr.below ((Below.refl w.heap.size w).alloc (Nat.le_refl _) (.cells #[] 3)))
  clear hr
  go_enter Tryz.func46, Tryz.ntmps46
  go_wp2_with (at_builtin; refine wpList_pushAll rfl (.tmp 3) (.tmp 4) rfl w.heap.size _ _ [] rfl (OwnInts.made w (Nat.le_refl _)) l _ _ rfl Hr.out (by simp; omega) (by simp) ?_)
  intro v1 w1 hown1 hg1 hlt1
  have Ho1 := Lib.hid hown1
  have Hb1 := Lib.hid (((Below.refl w.heap.size w).alloc (Nat.le_refl _) _).grown hg1 (by simp) (fun k hk => (hlt1 k hk).1))
  clear hown1 hg1 hlt1
  go_wp2_with fail
  go_ret
  exact ⟨_, rfl, Ho1.out, Hb1.out⟩
end Go.Proofs.YtllddjmcemcdhaaGreat

namespace Go.Proofs.YtllddjmcemcdhaaGreat
open Go.ChangeShapes Go.WideShapes Go.ChangeAt Go.RowKit

theorem eqlSlNil (w : World) (a : Option Addr) (n c : Nat) : (binOp .eql 48 (.slice a n c) (.slice none 0 0)).run Tryz.prog w = .ok (.bool a.isNone) w := run_eql_slice_nil w 48 3 a n c Tryz.underlying48

set_option maxRecDepth 100000 in
set_option maxHeartbeats 2000000 in
theorem iClone (a : Option Addr) (c : Nat) (l : List Int) (w : World) (hl : l.length ≤ 1048576) (hr : Nums w a l) :
    Calls Tryz.prog 121 #[.slice a l.length c] w fun e w' => ∃ v, e = .returned v ∧ OwnInts w' w.heap.size v l ∧ Below w.heap.size w w' := by
  have Hr := Lib.hid (hr.below ((Below.refl w.heap.size w).alloc (Nat.le_refl _) (.cells #[] 3)))
  cases a with
  | none =>
    have hm : l = [] := by
      cases l with
      | nil => rfl
      | cons y m =>
        obtain ⟨b, o', e, _⟩ := hr 0 (by simp)
        cases e
    subst hm
    clear hr
    go_enter Tryz.func121, Tryz.ntmps121
    go_wp2_with fail
    rw [eqlSlNil]
    simp only [Result.andThen]
    rw [Oper.upon_value]
    go_wp2_with fail
    go_ret
    exact ⟨_, rfl, OwnInts.nil, Below.refl _ _⟩
  | some ad =>
    clear hr
    go_enter Tryz.func121, Tryz.ntmps121
    go_wp2_with fail
    rw [eqlSlNil]
    simp only [Result.andThen]
    rw [Oper.upon_value]
    go_wp2_with (at_builtin; refine wpList_pushAll rfl (.tmp 5) (.tmp 6) rfl w.heap.size _ _ [] rfl (OwnInts.made w (Nat.le_refl _)) l _ _ rfl Hr.out (by simp; omega) (by simp) ?_)
    intro v1 w1 hown1 hg1 hlt1
    have Ho1 := Lib.hid hown1
    have Hb1 := Lib.hid (((Below.refl w.heap.size w).alloc (Nat.le_refl _) _).grown hg1 (by simp) (fun k hk => (hlt1 k hk).1))
    clear hown1 hg1 hlt1
    go_wp2_with fail
    go_ret
    exact ⟨_, rfl, Ho1.out, Hb1.out⟩
end Go.Proofs.YtllddjmcemcdhaaGreat
