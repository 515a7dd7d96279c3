
/-
  What is proved: contracts of the model's l7Sum and of the program's sumBytes; what a file is, that all of a good scope is such as a file can tell, and contracts of the program's writeEach on types and on objects. No condition beside what each theorem states.
-/
import Derived.Test.YtaccifjkeblhpaaGreatSObj7
import Derived.Test.YtaccifjkeblhpaaGreatSIsExp
namespace Go.Proofs.YtaccifjkeblhpaaGreat
open Go.ChangeShapes Go.WideShapes Go.ChangeAt Go.RowKit
set_option maxRecDepth 100000

/-- The two bytes that a file ends with. -/
def sumPart (b : ByteArray) : ByteArray := strOfNums [((numsOf b).sum % 65521 / 256) % 256, ((numsOf b).sum % 65521 % 256) % 256]
theorem sumPart_size (b : ByteArray) : (sumPart b).size = 2 := by unfold sumPart; rw [strOfNums_size]; rfl
theorem sum_next (s : ByteArray) (k : Nat) (h : k < s.size) : ((numsOf s).take (k + 1)).sum = ((numsOf s).take k).sum + (s[k].toNat : Int) := by
  rw [← numsOf_next s k h, List.sum_append]
  simp
theorem sum_bound (s : ByteArray) : ∀ k, k ≤ s.size → 0 ≤ ((numsOf s).take k).sum ∧ ((numsOf s).take k).sum ≤ 255 * (k : Int)
  | 0, _ => by simp
  | k + 1, h => by
    have h1 := sum_bound s k (by omega)
    rw [sum_next s k (by omega)]
    have h2 := s[k].toNat_lt
    push_cast
    omega
theorem rem_pos {x : Int} (h : 0 ≤ x) : x.tmod 65521 = x % 65521 := Int.tmod_eq_emod_of_nonneg h
theorem rem_pos2 {x : Int} (h : 0 ≤ x) : x.tmod 256 = x % 256 := Int.tmod_eq_emod_of_nonneg h
theorem quo_pos {x : Int} (h : 0 ≤ x) : x.tdiv 256 = x / 256 := Int.tdiv_eq_ediv_of_nonneg h

theorem sum_two (s : ByteArray) : sumPart s = strOfNums [(numsOf s).sum % 65521 / 256, (numsOf s).sum % 65521 % 256] := by
  unfold sumPart
  rw [show (numsOf s).sum % 65521 / 256 % 256 = (numsOf s).sum % 65521 / 256 by omega, show (numsOf s).sum % 65521 % 256 % 256 = (numsOf s).sum % 65521 % 256 by omega]

set_option maxHeartbeats 4000000 in
theorem iSumBytes (s : ByteArray) (w : World) (hs : s.size ≤ 1000000) : Calls Tryz.prog 50 #[.string s] w fun e w' => e = .returned (.string (sumPart s)) ∧ Below w.heap.size w w' := by
  have Hall := Lib.hid (fun k (h : ¬ k < s.size) => numsOf_take s k h)
  have Hnx := Lib.hid (sum_next s)
  have Hbd := Lib.hid (sum_bound s)
  have Hz := Lib.hid (sum_two s)
  have Hfin := Lib.hid (show 0 ≤ (numsOf s).sum ∧ (numsOf s).sum ≤ 255 * (s.size : Int) by have h := sum_bound s s.size (Nat.le_refl _); rw [numsOf_take s s.size (by omega)] at h; exact h)
  generalize sumPart s = z at *
  generalize numsOf s = l at *
  go_enter Tryz.func50, Tryz.ntmps50
  go_wp2_with fail
  go_loopw [3, 7] (fun v i wr => ∃ k : Nat, i = .int .i64 k ∧ k ≤ s.size ∧ v = .int .i64 ((l.take k).sum) ∧ Below w.heap.size w wr) (fun _ i _ => s.size - (intOf i).toNat)
  case atStart => exact ⟨0, rfl, by omega, by simp, Below.refl _ _⟩
  case round =>
    obtain ⟨k, rfl, hk, rfl, hbel⟩ := hrel
    have Hbel := Lib.hid hbel
    clear hbel
    by_cases hlt : k < s.size
    · have Hk := Lib.hid (Hnx.out k hlt)
      obtain ⟨b1, b2⟩ := Hbd.out k hk
      have i1 : (0 : Int) ≤ (k : Int) := by omega
      have i2 : (k : Int) < (s.size : Int) := by omega
      have hb := s[k].toNat_lt
      generalize (l.take k).sum = S at *
      go_wp2_with fail
      exact ⟨⟨k + 1, by congr 1, by omega, by rw [Hk.out], Hbel.out⟩, by simp [intOf]; omega⟩
    · have hv := Hall.out k hlt
      rw [hv]
      obtain ⟨b1, b2⟩ := Hfin.out
      generalize l.sum = S at *
      have r1 := rem_pos b1
      have b3 : 0 ≤ S % 65521 := by omega
      have r2 := rem_pos2 b3
      have r3 := quo_pos b3
      have kb := fun W => conv2a W (S % 65521 / 256) (S % 65521 % 256)
      go_wp2_with fail
      go_ret
      exact ⟨by rw [Hz.out]; rfl, Hbel.out.alloc Hbel.out.size _⟩

set_option maxHeartbeats 4000000 in
theorem sl7Sum (s : ByteArray) (w : World) (hs : s.size ≤ 1000000) : Calls Tryz.prog 94 #[.string s] w fun e w' => e = .returned (.string (sumPart s)) ∧ Below w.heap.size w w' := by
  have Hall := Lib.hid (fun k (h : ¬ k < s.size) => numsOf_take s k h)
  have Hnx := Lib.hid (sum_next s)
  have Hz := Lib.hid (sum_two s)
  generalize sumPart s = z at *
  generalize numsOf s = l at *
  go_enter Tryz.func94, Tryz.ntmps94
  go_wp2_with fail
  go_loopw [3, 4] (fun v i wr => ∃ k : Nat, i = .int .i64 k ∧ k ≤ s.size ∧ v = .int .i64 ((l.take k).sum % 65521) ∧ Below w.heap.size w wr) (fun _ i _ => s.size - (intOf i).toNat)
  case atStart => exact ⟨0, rfl, by omega, by simp, Below.refl _ _⟩
  case round =>
    obtain ⟨k, rfl, hk, rfl, hbel⟩ := hrel
    have Hbel := Lib.hid hbel
    clear hbel
    by_cases hlt : k < s.size
    · have Hk := Lib.hid (Hnx.out k hlt)
      have i1 : (0 : Int) ≤ (k : Int) := by omega
      have i2 : (k : Int) < (s.size : Int) := by omega
      have hb := s[k].toNat_lt
      generalize (l.take k).sum = S at *
      have b1 : 0 ≤ S % 65521 + (s[k].toNat : Int) := by omega
      have r1 := rem_pos b1
      go_wp2_with fail
      exact ⟨⟨k + 1, by congr 1, by omega, by rw [Hk.out]; try (congr 1; try omega), Hbel.out⟩, by simp [intOf]; omega⟩
    · have hv := Hall.out k hlt
      rw [hv]
      generalize l.sum = S at *
      have b3 : 0 ≤ S % 65521 := by omega
      have r2 := rem_pos2 b3
      have r3 := quo_pos b3
      have kb := fun W => conv2a W (S % 65521 / 256) (S % 65521 % 256)
      go_wp2_with fail
      go_ret
      exact ⟨by rw [Hz.out]; rfl, Hbel.out.alloc Hbel.out.size _⟩
end Go.Proofs.YtaccifjkeblhpaaGreat

namespace Go.Proofs.YtaccifjkeblhpaaGreat
open Go.ChangeShapes Go.WideShapes Go.ChangeAt Go.RowKit
set_option maxRecDepth 100000

/-- What each file begins with. -/
def headF : ByteArray := ⟨#[79, 83, 49]⟩
/-- A file without its sum. -/
noncomputable def filePart (s : ScopeD) : ByteArray := headF ++ namePart s.fName ++ eachPart typePart (s.fTypes.drop 3) ++ eachPart objPart s.fObjects
/-- A file. -/
noncomputable def fileZ (s : ScopeD) : ByteArray := filePart s ++ sumPart (filePart s)
noncomputable def fileB (s : ScopeD) : Bool := isExpB s && decide ((fileZ s).size ≤ 3000)
noncomputable def fileAns (s : ScopeD) : ByteArray := if fileB s then fileZ s else ByteArray.empty
theorem catP_sizeOn {T : Type} (f : T → ByteArray) (n : Nat) : ∀ l : List T, (∀ x ∈ l, (f x).size ≤ n) → (catP f l).size ≤ l.length * n
  | [], _ => by show ByteArray.empty.size ≤ _; simp
  | x :: l, h => by
    have h1 := h x (List.mem_cons_self ..)
    have h2 := catP_sizeOn f n l (fun y hy => h y (List.mem_cons_of_mem _ hy))
    show (f x ++ catP f l).size ≤ _
    rw [ByteArray.size_append, List.length_cons, Nat.succ_mul]
    omega
def smallType (t : TypeD) : Prop := t.fFields.length ≤ 6 ∧ (∀ x ∈ t.fFields, x.fName.size ≤ maxLen) ∧ t.fOwner.size ≤ maxLen ∧ t.fName.size ≤ maxLen
def smallObject (t : ObjectD) : Prop := t.fParams.length ≤ 4 ∧ (∀ x ∈ t.fParams, x.fName.size ≤ maxLen) ∧ t.fName.size ≤ maxLen
theorem eachPart_size {T : Type} (f : T → ByteArray) (n : Nat) (hf : ∀ x, (f x).size ≤ n) (l : List T) : (eachPart f l).size ≤ 5 + l.length * n := by
  unfold eachPart
  rw [ByteArray.size_append]
  have h1 := numPart_size (l.length : Int)
  have h2 := catP_size f n hf l
  omega
theorem typePart_size {t : TypeD} (h : smallType t) : (typePart t).size ≤ 200 := by
  have h0 := h.1
  have h1 := byteB_size t.fKind
  have h2 := numPart_size t.fLong
  have h3 := numPart_size t.fBase
  have h4 := mayPart_size t.fOwner
  have h5 := mayPart_size t.fName
  have h6 := eachPart_size fieldPart 17 fieldPart_size t.fFields
  unfold typePart
  simp only [ByteArray.size_append]
  omega
theorem objPart_size {t : ObjectD} (h : smallObject t) : (objPart t).size ≤ 200 := by
  have h0 := h.1
  have h1 := byteB_size t.fKind
  have h2 := byteB_size t.fMark
  have h3 := namePart_size t.fName
  have h4 := numPart_size t.fType
  have h5 := numPart_size t.fValue
  have h6 := eachPart_size paramPart 17 paramPart_size t.fParams
  unfold objPart
  simp only [ByteArray.size_append]
  omega
theorem rows_drop {T : Type} {S : Shape T} {Q : Nat → Prop} {w : World} {b o : Nat} {l : List T} (k : Nat) (h : Rows S Q w (some ⟨b, o, none⟩) l) : Rows S Q w (some ⟨b, o + k * S.n, none⟩) (l.drop k) := fun i hi => by
  have hi' : k + i < l.length := by simp at hi; omega
  obtain ⟨b', o', cs, he, hq, hb, hc, hat⟩ := h (k + i) hi'
  injection he with he
  injection he with e1 e2 e3
  subst e1 e2
  refine ⟨b, o + k * S.n, cs, rfl, hq, hb, fun j hj => ?_, ?_⟩
  · rw [show o + k * S.n + i * S.n + j = o + (k + i) * S.n + j by rw [Nat.add_mul]; omega]
    exact hc j hj
  · rw [List.getElem_drop]
    exact hat
theorem may_name {s : ByteArray} (h : nameP s) : mayB s = true := by unfold mayB; rw [nameB_true h, Bool.or_true]
theorem may_none {s : ByteArray} (h : s.size = 0) : mayB s = true := by
  unfold mayB
  have h2 : s.data = #[] := Array.eq_empty_of_size_eq_zero h
  rw [show s.toList.isEmpty = true by rw [ByteArray.toList_eq, h2]; rfl]
  rfl
theorem kind_in {l : List TypeD} {x : Int} {k : Int} (h : kindZ l x = k) (hk : k ≠ 0) : 0 ≤ x ∧ x < (l.length : Int) := by
  by_cases h1 : x < 0 ∨ (l.length : Int) ≤ x
  · rw [kindZ_out h1] at h; exact absurd h.symm hk
  · omega
theorem field_ok {n : Nat} {f : FieldD} (hn : n ≤ 24) (h : fieldOk n f) : fieldB f = true := by
  obtain ⟨h1, h2, h3⟩ := h
  rw [fieldB_eq]
  have hm : mayB f.fName = true := by
    rcases h1 with h | h
    · exact may_name h
    · exact may_none h.1
  rw [hm]
  unfold inB
  simp
  omega
theorem param_ok {n : Nat} {f : ParamD} (hn : n ≤ 24) (h : parTyped n f) (hm : nameP f.fName) : paramB f = true := by
  unfold parTyped at h
  rw [paramB_eq, nameB_true hm]
  unfold inB
  simp
  omega
theorem all_of {T : Type} {f : T → Bool} {l : List T} (h : ∀ x ∈ l, f x = true) : l.all f = true := List.all_eq_true.2 h
theorem type_ok {l : List TypeD} {t : TypeD} (hl : l.length ≤ 24) (h : typeOk l t) : ftypeB t = true ∧ smallType t := by
  obtain ⟨hc, h⟩ := h
  have ho : mayB t.fOwner = true ∧ mayB t.fName = true ∧ t.fOwner.size ≤ maxLen ∧ t.fName.size ≤ maxLen := by
    unfold maxLen
    rcases hc with h | h
    · exact ⟨may_name h.1, may_name h.2, by have := h.1.2.1; omega, by have := h.2.2.1; omega⟩
    · exact ⟨may_none h.1, may_none h.2, by omega, by omega⟩
  obtain ⟨ho1, ho2, ho3, ho4⟩ := ho
  have hfs : t.fFields.length ≤ 6 ∧ ∀ x ∈ t.fFields, fieldB x = true ∧ x.fName.size ≤ maxLen := by
    rcases h with ⟨_, _, _, h⟩ | ⟨_, _, _, h⟩ | ⟨_, _, _, h⟩
    · exact ⟨by omega, fun x hx => by rw [List.length_eq_zero_iff.1 h] at hx; cases hx⟩
    · refine ⟨h.1, fun x hx => ?_⟩
      obtain ⟨i, hi, rfl⟩ := List.mem_iff_getElem.1 hx
      have hk := h.2.1 i hi hi
      refine ⟨field_ok hl hk, ?_⟩
      unfold maxLen
      rcases hk.1 with h | h
      · have := h.2.1; omega
      · have := h.1; omega
    · exact ⟨by omega, fun x hx => by rw [List.length_eq_zero_iff.1 h] at hx; cases hx⟩
  have hb : inB 4 6 t.fKind = true ∧ inB 0 1000 t.fLong = true ∧ inB (-1) 24 t.fBase = true := by
    unfold inB
    rcases h with ⟨h1, h2, h3, _⟩ | ⟨h1, h2, h3, _⟩ | ⟨h1, h2, h3, _⟩
    · simp; omega
    · rcases h3 with h3 | h3
      · simp; omega
      · have := kind_in h3 (by decide); simp; omega
    · rcases h3 with h3 | h3
      · have := kind_in h3 (by decide); simp; omega
      · have := kind_in h3 (by decide); simp; omega
  refine ⟨?_, hfs.1, fun x hx => (hfs.2 x hx).2, ho3, ho4⟩
  rw [ftypeB_eq (all_of fun x hx => (hfs.2 x hx).1), hb.1, hb.2.1, hb.2.2, ho1, ho2]
  have := hfs.1
  simp
  omega
theorem object_ok {n : Nat} {o : ObjectD} (hn : n ≤ 24) (h : objOk n o) (hm : nameP o.fName) : fobjB o = true ∧ smallObject o := by
  obtain ⟨hk, hk2, h⟩ := h
  have hps : o.fParams.length ≤ 4 ∧ ∀ x ∈ o.fParams, paramB x = true ∧ x.fName.size ≤ maxLen := by
    rcases h with ⟨_, _, _, h⟩ | ⟨_, _, _, h⟩ | ⟨_, _, _, h⟩
    · exact ⟨by omega, fun x hx => by rw [List.length_eq_zero_iff.1 h] at hx; cases hx⟩
    · exact ⟨by omega, fun x hx => by rw [List.length_eq_zero_iff.1 h] at hx; cases hx⟩
    · refine ⟨h.1, fun x hx => ?_⟩
      have hnm : nameP x.fName := by
        obtain ⟨i, hi, hxi⟩ := List.mem_iff_getElem.1 hx
        have := h.2.2.1 i (by simpa using hi) (by simpa using hi)
        rw [List.getElem_map, hxi] at this
        exact this
      refine ⟨param_ok hn (h.2.1 x hx) hnm, ?_⟩
      unfold maxLen
      have := hnm.2.1
      omega
  have hb : inB 1 4 o.fKind = true ∧ inB 0 2 o.fMark = true ∧ inB (-1) 24 o.fType = true ∧ inB (-1000000000) 1000000000 o.fValue = true := by
    unfold inB
    rcases h with ⟨h1, h2, h3, _⟩ | ⟨h1, h2, h3, _⟩ | ⟨h1, h2, h3, _⟩ <;> (simp; omega)
  refine ⟨?_, hps.1, fun x hx => (hps.2 x hx).2, by unfold maxLen; have := hm.2.1; omega⟩
  rw [fobjB_eq (all_of fun x hx => (hps.2 x hx).1), hb.1, hb.2.1, hb.2.2.1, hb.2.2.2, nameB_true hm]
  have := hps.1
  simp
  omega
/-- What a good scope has that a file can tell. -/
structure FileOk (s : ScopeD) : Prop where
  name : nameB s.fName = true
  three : 3 ≤ s.fTypes.length
  most : s.fTypes.length ≤ 24
  types : ∀ t ∈ s.fTypes.drop 3, ftypeB t = true ∧ smallType t
  few : s.fObjects.length ≤ 16
  objects : ∀ o ∈ s.fObjects, fobjB o = true ∧ smallObject o
theorem FileOk.of {s : ScopeD} (h : scopeP s) : FileOk s := by
  obtain ⟨h1, _, ⟨⟨⟨h3, _⟩, h24, hn⟩, _⟩, ⟨h16, ho, hno⟩, _⟩ := h
  refine ⟨nameB_true h1, h3, h24, fun t ht => ?_, h16, fun o hob => ?_⟩
  · obtain ⟨i, hi, rfl⟩ := List.mem_iff_getElem.1 ht
    rw [List.length_drop] at hi
    rw [List.getElem_drop]
    exact type_ok h24 (hn.1 (3 + i) (by omega) (by omega) (by omega))
  · refine object_ok h24 (ho o hob) ?_
    obtain ⟨i, hi, hoi⟩ := List.mem_iff_getElem.1 hob
    have := hno.1 (s.fImports.length + i) (by simp; omega) (by simp; omega)
    rw [List.getElem_append_right (by omega)] at this
    simp only [Nat.add_sub_cancel_left, List.getElem_map, hoi] at this
    exact this
theorem FileOk.size {s : ScopeD} (h : FileOk s) : (filePart s).size ≤ 10000 := by
  have h1 := namePart_size s.fName
  have h2 : (eachPart typePart (s.fTypes.drop 3)).size ≤ 5 + 21 * 200 := by
    unfold eachPart
    rw [ByteArray.size_append]
    have a := numPart_size ((s.fTypes.drop 3).length : Int)
    have b := catP_sizeOn typePart 200 (s.fTypes.drop 3) (fun x hx => typePart_size (h.types x hx).2)
    have c : (s.fTypes.drop 3).length ≤ 21 := by rw [List.length_drop]; have := h.most; omega
    have d := Nat.mul_le_mul_right 200 c
    omega
  have h3 : (eachPart objPart s.fObjects).size ≤ 5 + 16 * 200 := by
    unfold eachPart
    rw [ByteArray.size_append]
    have a := numPart_size (s.fObjects.length : Int)
    have b := catP_sizeOn objPart 200 s.fObjects (fun x hx => objPart_size (h.objects x hx).2)
    have d := Nat.mul_le_mul_right 200 h.few
    omega
  unfold filePart
  simp only [ByteArray.size_append]
  have : headF.size = 3 := rfl
  omega
theorem FileOk.each {s : ScopeD} (h : FileOk s) : eachB ftypeB 21 (s.fTypes.drop 3) = true ∧ eachB fobjB 16 s.fObjects = true := by
  have h1 : (s.fTypes.drop 3).length ≤ 21 := by rw [List.length_drop]; have := h.most; omega
  have h2 := h.few
  refine ⟨?_, ?_⟩
  · rw [each_eq _ _ (by omega), all_of fun x hx => (h.types x hx).1, Bool.and_true]
    exact decide_eq_true (by omega)
  · rw [each_eq _ _ (by omega), all_of fun x hx => (h.objects x hx).1, Bool.and_true]
    exact decide_eq_true (by omega)
theorem isExp_ok {s : ScopeD} (h : isExpB s = true) : FileOk s := FileOk.of (by
  by_cases hp : scopeP s
  · exact hp
  · rw [(isExp_no hp).2] at h; cases h)
--EACH<
set_option maxHeartbeats 16000000 in
theorem iEachType (wB : World) (g : Nat) (a : Option Addr) (c : Nat) (l : List TypeD) (most : Int) (w : World) (bs : ByteArray) (sp : Bool) (h : Wr wB.heap.size g w bs sp) (hb0 : Below wB.heap.size wB w) (hs : bs.size + 5 + 200 * l.length + 400 ≤ 100000000) (hr : Rows typeS Any wB a l) (hn : ∀ t ∈ l, smallType t) :
    Calls Tryz.prog 46 #[.pointer (some ⟨g, 0, none⟩), .slice a l.length c, .int .i64 most, .func (.func 47) #[] #[]] w fun e w' => e = .returned (.tuple #[]) ∧ Wr wB.heap.size g w' (bs ++ eachPart typePart l) (sp || !eachB ftypeB most l) ∧ Below wB.heap.size wB w' := by
  have hlt := h.lt
  have z1 := numPart_size (l.length : Int)
  have HP := Lib.hid (iPutNumber wB.heap.size g (l.length : Int) 0 most _ w bs sp h (by omega) rfl)
  have Hr := Lib.hid hr
  have Hn := Lib.hid hn
  have Hb0 := Lib.hid hb0
  have Fin := Lib.hid (show ∀ W, Wr wB.heap.size g W (bs ++ numPart (l.length : Int) ++ catP typePart (l.take l.length)) ((sp || !(decide (wholeN (l.length : Int)) && decide ((0 : Int) ≤ (l.length : Int)) && decide ((l.length : Int) ≤ most))) || !(l.take l.length).all ftypeB) → Wr wB.heap.size g W (bs ++ eachPart typePart l) (sp || !eachB ftypeB most l) from fun W h => by
    unfold eachPart eachB
    rw [List.take_length, ba_assoc, or_and] at h
    exact h)
  have hB := Nat.le_trans hlt.1 (Nat.le_of_lt hlt.2)
  clear h hr hn hb0
  generalize (sp || !(decide (wholeN (l.length : Int)) && decide ((0 : Int) ≤ (l.length : Int)) && decide ((l.length : Int) ≤ most))) = sp1 at *
  have hsz1 : (bs ++ numPart (l.length : Int)).size ≤ bs.size + 5 := by rw [ByteArray.size_append]; omega
  generalize bs ++ numPart (l.length : Int) = bs1 at *
  go_enter Tryz.func46, Tryz.ntmps46
  go_wp2_with fail
  refine HP.out.mono ?_
  rintro e w1 ⟨rfl, hW, hb, hk⟩
  have H1 := Lib.hid hW
  have B1 := Lib.hid (Hb0.out.trans hb)
  clear hW hb hk HP
  go_wp2_with fail
  go_loopw [17] (fun i wr => ∃ k : Nat, i = .int .i64 k ∧ k ≤ l.length ∧ Wr wB.heap.size g wr (bs1 ++ catP typePart (l.take k)) (sp1 || !(l.take k).all ftypeB) ∧ Below wB.heap.size wB wr) (fun i _ => l.length - (intOf i).toNat)
  case atStart => exact ⟨0, rfl, by omega, by simpa [catP, ba_empty] using H1.out, B1.out⟩
  case round =>
    obtain ⟨k, rfl, hk, hw, hbel⟩ := hrel
    have hsr := hbel.size
    have hglt := hw.lt
    have H := Lib.hid hw
    have Bl := Lib.hid hbel
    clear hw
    by_cases hlt : k < l.length
    · obtain ⟨b, o, cs, rfl, _, hb1, hc1, hat⟩ := Hr.out k hlt
      obtain ⟨a3, c3, rfl, hfe, _⟩ := hat
      have hnn : typeS.n = 6 := rfl
      have e0 := (hbel.cell (p := ⟨b, o + k * 6 + 0, none⟩) hb1).trans (hc1 0 (by decide))
      have e1 := (hbel.cell (p := ⟨b, o + k * 6 + 1, none⟩) hb1).trans (hc1 1 (by decide))
      have e2 := (hbel.cell (p := ⟨b, o + k * 6 + 2, none⟩) hb1).trans (hc1 2 (by decide))
      have e3 := (hbel.cell (p := ⟨b, o + k * 6 + 3, none⟩) hb1).trans (hc1 3 (by decide))
      have e4 := (hbel.cell (p := ⟨b, o + k * 6 + 4, none⟩) hb1).trans (hc1 4 (by decide))
      have e5 := (hbel.cell (p := ⟨b, o + k * 6 + 5, none⟩) hb1).trans (hc1 5 (by decide))
      simp only [Nat.add_zero, List.getElem?_cons_zero, List.getElem?_cons_succ] at e0 e1 e2 e3 e4 e5
      have hnk := Hn.out _ (List.getElem_mem hlt)
      have Hc := Lib.hid (show catP typePart (l.take (k + 1)) = catP typePart (l.take k) ++ typePart l[k] by rw [take_more hlt, catP_snoc])
      have Ha := Lib.hid (all_more ftypeB hlt)
      have hcs : (catP typePart (l.take k)).size ≤ k * 200 := Nat.le_trans (catP_sizeOn typePart 200 _ (fun x hx => typePart_size (Hn.out x (List.mem_of_mem_take hx)))) (by rw [List.length_take]; exact Nat.mul_le_mul_right _ (Nat.min_le_left _ _))
      have Hfe := Lib.hid hfe
      clear hbel hc1 hfe
      generalize l[k] = t at *
      have HA := Lib.hid (H.out.below ((Below.refl _ _).alloc (Nat.le_refl _) (.cells #[.int .i64 t.fKind, .int .i64 t.fLong, .int .i64 t.fBase, .slice a3 t.fFields.length c3, .string t.fOwner, .string t.fName] 72)))
      have BA := Lib.hid (Bl.out.alloc hsr (.cells #[.int .i64 t.fKind, .int .i64 t.fLong, .int .i64 t.fBase, .slice a3 t.fFields.length c3, .string t.fOwner, .string t.fName] 72))
      go_wp2_with fail
      refine (iWriteType wB g t a3 c3 _ _ _ HA.out BA.out (by rw [ByteArray.size_append]; have := hnk.1; omega) Hfe.out hnk.2.1 hnk.2.2.1 hnk.2.2.2).mono ?_
      rintro e w2 ⟨rfl, hW, hb⟩
      have H2 := Lib.hid (show Wr wB.heap.size g w2 (bs1 ++ catP typePart (l.take (k + 1))) (sp1 || !(l.take (k + 1)).all ftypeB) by
        rw [Hc.out, Ha.out, ← ba_assoc, ← or_and]
        exact hW)
      have B2 := Lib.hid hb
      clear hW hb
      go_wp2_with fail
      exact ⟨⟨k + 1, by congr 1, by omega, H2.out, B2.out⟩, by simp [intOf]; omega⟩
    · obtain rfl : k = l.length := by omega
      clear hbel
      go_wp2_with fail
      go_end0
      exact ⟨rfl, Fin.out _ H.out, Bl.out⟩

set_option maxHeartbeats 16000000 in
theorem iEachObject (wB : World) (g : Nat) (a : Option Addr) (c : Nat) (l : List ObjectD) (most : Int) (w : World) (bs : ByteArray) (sp : Bool) (h : Wr wB.heap.size g w bs sp) (hb0 : Below wB.heap.size wB w) (hs : bs.size + 5 + 200 * l.length + 400 ≤ 100000000) (hr : Rows objectS Any wB a l) (hn : ∀ t ∈ l, smallObject t) :
    Calls Tryz.prog 48 #[.pointer (some ⟨g, 0, none⟩), .slice a l.length c, .int .i64 most, .func (.func 49) #[] #[]] w fun e w' => e = .returned (.tuple #[]) ∧ Wr wB.heap.size g w' (bs ++ eachPart objPart l) (sp || !eachB fobjB most l) ∧ Below wB.heap.size wB w' := by
  have hlt := h.lt
  have z1 := numPart_size (l.length : Int)
  have HP := Lib.hid (iPutNumber wB.heap.size g (l.length : Int) 0 most _ w bs sp h (by omega) rfl)
  have Hr := Lib.hid hr
  have Hn := Lib.hid hn
  have Hb0 := Lib.hid hb0
  have Fin := Lib.hid (show ∀ W, Wr wB.heap.size g W (bs ++ numPart (l.length : Int) ++ catP objPart (l.take l.length)) ((sp || !(decide (wholeN (l.length : Int)) && decide ((0 : Int) ≤ (l.length : Int)) && decide ((l.length : Int) ≤ most))) || !(l.take l.length).all fobjB) → Wr wB.heap.size g W (bs ++ eachPart objPart l) (sp || !eachB fobjB most l) from fun W h => by
    unfold eachPart eachB
    rw [List.take_length, ba_assoc, or_and] at h
    exact h)
  have hB := Nat.le_trans hlt.1 (Nat.le_of_lt hlt.2)
  clear h hr hn hb0
  generalize (sp || !(decide (wholeN (l.length : Int)) && decide ((0 : Int) ≤ (l.length : Int)) && decide ((l.length : Int) ≤ most))) = sp1 at *
  have hsz1 : (bs ++ numPart (l.length : Int)).size ≤ bs.size + 5 := by rw [ByteArray.size_append]; omega
  generalize bs ++ numPart (l.length : Int) = bs1 at *
  go_enter Tryz.func48, Tryz.ntmps48
  go_wp2_with fail
  refine HP.out.mono ?_
  rintro e w1 ⟨rfl, hW, hb, hk⟩
  have H1 := Lib.hid hW
  have B1 := Lib.hid (Hb0.out.trans hb)
  clear hW hb hk HP
  go_wp2_with fail
  go_loopw [17] (fun i wr => ∃ k : Nat, i = .int .i64 k ∧ k ≤ l.length ∧ Wr wB.heap.size g wr (bs1 ++ catP objPart (l.take k)) (sp1 || !(l.take k).all fobjB) ∧ Below wB.heap.size wB wr) (fun i _ => l.length - (intOf i).toNat)
  case atStart => exact ⟨0, rfl, by omega, by simpa [catP, ba_empty] using H1.out, B1.out⟩
  case round =>
    obtain ⟨k, rfl, hk, hw, hbel⟩ := hrel
    have hsr := hbel.size
    have hglt := hw.lt
    have H := Lib.hid hw
    have Bl := Lib.hid hbel
    clear hw
    by_cases hlt : k < l.length
    · obtain ⟨b, o, cs, rfl, _, hb1, hc1, hat⟩ := Hr.out k hlt
      obtain ⟨a3, c3, rfl, hfe, _⟩ := hat
      have hnn : objectS.n = 6 := rfl
      have e0 := (hbel.cell (p := ⟨b, o + k * 6 + 0, none⟩) hb1).trans (hc1 0 (by decide))
      have e1 := (hbel.cell (p := ⟨b, o + k * 6 + 1, none⟩) hb1).trans (hc1 1 (by decide))
      have e2 := (hbel.cell (p := ⟨b, o + k * 6 + 2, none⟩) hb1).trans (hc1 2 (by decide))
      have e3 := (hbel.cell (p := ⟨b, o + k * 6 + 3, none⟩) hb1).trans (hc1 3 (by decide))
      have e4 := (hbel.cell (p := ⟨b, o + k * 6 + 4, none⟩) hb1).trans (hc1 4 (by decide))
      have e5 := (hbel.cell (p := ⟨b, o + k * 6 + 5, none⟩) hb1).trans (hc1 5 (by decide))
      simp only [Nat.add_zero, List.getElem?_cons_zero, List.getElem?_cons_succ] at e0 e1 e2 e3 e4 e5
      have hnk := Hn.out _ (List.getElem_mem hlt)
      have Hc := Lib.hid (show catP objPart (l.take (k + 1)) = catP objPart (l.take k) ++ objPart l[k] by rw [take_more hlt, catP_snoc])
      have Ha := Lib.hid (all_more fobjB hlt)
      have hcs : (catP objPart (l.take k)).size ≤ k * 200 := Nat.le_trans (catP_sizeOn objPart 200 _ (fun x hx => objPart_size (Hn.out x (List.mem_of_mem_take hx)))) (by rw [List.length_take]; exact Nat.mul_le_mul_right _ (Nat.min_le_left _ _))
      have Hfe := Lib.hid hfe
      clear hbel hc1 hfe
      generalize l[k] = t at *
      have HA := Lib.hid (H.out.below ((Below.refl _ _).alloc (Nat.le_refl _) (.cells #[.string t.fName, .int .i64 t.fKind, .int .i64 t.fMark, .int .i64 t.fType, .int .i64 t.fValue, .slice a3 t.fParams.length c3] 78)))
      have BA := Lib.hid (Bl.out.alloc hsr (.cells #[.string t.fName, .int .i64 t.fKind, .int .i64 t.fMark, .int .i64 t.fType, .int .i64 t.fValue, .slice a3 t.fParams.length c3] 78))
      go_wp2_with fail
      refine (iWriteObject wB g t a3 c3 _ _ _ HA.out BA.out (by rw [ByteArray.size_append]; have := hnk.1; omega) Hfe.out hnk.2.1 hnk.2.2).mono ?_
      rintro e w2 ⟨rfl, hW, hb⟩
      have H2 := Lib.hid (show Wr wB.heap.size g w2 (bs1 ++ catP objPart (l.take (k + 1))) (sp1 || !(l.take (k + 1)).all fobjB) by
        rw [Hc.out, Ha.out, ← ba_assoc, ← or_and]
        exact hW)
      have B2 := Lib.hid hb
      clear hW hb
      go_wp2_with fail
      exact ⟨⟨k + 1, by congr 1, by omega, H2.out, B2.out⟩, by simp [intOf]; omega⟩
    · obtain rfl : k = l.length := by omega
      clear hbel
      go_wp2_with fail
      go_end0
      exact ⟨rfl, Fin.out _ H.out, Bl.out⟩

--EACH>
end Go.Proofs.YtaccifjkeblhpaaGreat
