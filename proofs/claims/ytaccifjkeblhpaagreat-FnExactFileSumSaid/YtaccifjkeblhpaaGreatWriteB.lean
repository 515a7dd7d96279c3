
/-
  What is proved: a writer of files in memory: what it holds, and contracts of its put, whole, putByte, putNumber and putNameOrNone; contracts of the program's writeParam, writeField, and of writeEach on params and on fields; contracts of the program's writeObject, writeType, ObjectBytes and TypeBytes. No condition beside what each theorem states.
-/
import Derived.Test.YtaccifjkeblhpaaGreatNumBytes
import Derived.Test.YtaccifjkeblhpaaGreatName
import Derived.Test.YtaccifjkeblhpaaGreatMem
import Derived.Lib.AppendStr
import Derived.BigQuiet
import Derived.Deep.QuietTactic
import Derived.Test.YtaccifjkeblhpaaGreatStParam
import Derived.Test.YtaccifjkeblhpaaGreatStField
import Derived.Test.YtaccifjkeblhpaaGreatStObject
import Derived.Test.YtaccifjkeblhpaaGreatStType
namespace Go.Proofs.YtaccifjkeblhpaaGreat
open Go.ChangeShapes Go.WideShapes Go.ChangeAt Go.RowKit
set_option maxRecDepth 100000

/-- Of what was there only the writer's own struct and rows of bytes have turned. -/
structure Kp (g : Nat) (w w' : World) : Prop where
  size : w.heap.size ≤ w'.heap.size
  block : ∀ b, b < w.heap.size → b ≠ g → (∀ cs fr, w.heap[b]? ≠ some (.cells cs 5 fr)) → w'.heap[b]? = w.heap[b]?
theorem Kp.refl (g : Nat) (w : World) : Kp g w w := ⟨Nat.le_refl _, fun _ _ _ _ => rfl⟩
theorem Kp.trans {g : Nat} {w w1 w2 : World} (h : Kp g w w1) (h' : Kp g w1 w2) : Kp g w w2 :=
  ⟨Nat.le_trans h.size h'.size, fun b h1 h2 h3 => by
    have e := h.block b h1 h2 h3
    exact (h'.block b (Nat.lt_of_lt_of_le h1 h.size) h2 (fun cs fr => by rw [e]; exact h3 cs fr)).trans e⟩
theorem Kp.box {g b : Nat} {t : TypeId} {w w' : World} {cs : Array Value} (h : Kp g w w') (hx : Box w b t cs) (hg : b ≠ g) (ht : t ≠ 5) : Box w' b t cs := by
  unfold Box at hx ⊢
  rw [h.block b (Box.lt hx) hg (fun cs' fr e => by rw [hx] at e; injection e with e; injection e with _ e2 _; exact ht e2)]
  exact hx
theorem Kp.of_below {g : Nat} {w w' : World} (h : Below w.heap.size w w') : Kp g w w' := ⟨h.size, fun b hb _ _ => h.block b hb⟩
theorem Kp.alloc {g : Nat} {w w' : World} (h : Kp g w w') (o : Obj) : Kp g w (w'.alloc o) := h.trans (Kp.of_below ((Below.refl _ _).alloc (Nat.le_refl _) o))
theorem Kp.set {g i : Nat} {w w' : World} (h : Kp g w w') (v : Value) : Kp g w (w'.setCell ⟨g, i, none⟩ v) :=
  h.trans ⟨by simp [World.setCell], fun b _ hg _ => by simp [World.setCell, Array.getElem?_modify, Ne.symm hg]⟩
theorem Kp.grown {g : Nat} {w w' w'' : World} {v : Value} {n : Nat} {B : Nat} {xs : List Value} (h : Kp g w w') (hg : w'.grownBy w'' v.ownBlock) (hown : w'.ownsRow B 5 1 v n xs) : Kp g w w'' :=
  h.trans ⟨hg.size, fun b hb _ hn => hg.block b hb (fun e => by
    rcases hown.2 with ⟨rfl, _⟩ | ⟨k, cap, cur, rfl, _, hk, _⟩
    · cases e
    · injection e with e
      subst e
      exact hn _ _ hk)⟩

theorem strCells_append (a b : ByteArray) : Lib.strCells (a ++ b) = Lib.strCells a ++ Lib.strCells b := by
  unfold Lib.strCells
  rw [← List.map_append]
  congr 1
theorem strCells_nums (s : ByteArray) : Lib.strCells s = (numsOf s).map (Value.int .u8) := by simp [Lib.strCells, numsOf]
theorem strOf_nums (s : ByteArray) : strOfNums (numsOf s) = s := by
  apply ByteArray.ext
  apply Array.ext'
  rw [strOfNums_data]
  unfold numsOf
  rw [List.map_map]
  conv => rhs; rw [← List.map_id s.data.toList]
  apply List.map_congr_left
  intro b _
  show UInt8.ofNat ((b.toNat : Int)).toNat = b
  rw [Int.toNat_natCast]
  exact UInt8.ofNat_toNat

theorem row_form {w : World} {B n size : Nat} {e : TypeId} {v : Value} {xs : List Value} (h : w.ownsRow B e size v n xs) : ∃ a c, v = .slice a n c := by
  rcases h.2 with ⟨rfl, h0⟩ | ⟨g, cap, _, rfl, _⟩
  · subst h0
    exact ⟨none, 0, rfl⟩
  · exact ⟨_, cap, rfl⟩
theorem own_set {w : World} {B n g i : Nat} {v u : Value} {t : TypeId} {cs : Array Value} {xs : List Value} (h : w.ownsRow B 5 1 v n xs) (hx : Box w g t cs) (ht : t ≠ 5) : (w.setCell ⟨g, i, none⟩ u).ownsRow B 5 1 v n xs := by
  refine ⟨h.1, h.2.imp id (fun ⟨k, cap, cur, h1, h2, h3, h4⟩ => ⟨k, cap, cur, h1, h2, ?_, h4⟩)⟩
  by_cases e : k = g
  · subst e
    unfold Box at hx
    rw [hx] at h3
    injection h3 with h3
    injection h3 with _ h3 _
    exact absurd h3 ht
  · simp [World.setCell, Array.getElem?_modify, Ne.symm e, h3]
/-- The writer at block g holds some bytes, and whether it is spoilt. -/
def Wr (B g : Nat) (w : World) (bs : ByteArray) (sp : Bool) : Prop := B ≤ g ∧ ∃ v, Box w g 66 #[v, .bool sp] ∧ w.ownsRow B 5 1 v bs.size (Lib.strCells bs)

set_option maxHeartbeats 4000000 in
theorem iPut (B g : Nat) (s : ByteArray) (ok : Bool) (w : World) (bs : ByteArray) (sp : Bool) (h : Wr B g w bs sp) (hs : bs.size + s.size ≤ 100000000) :
    Calls Tryz.prog 44 #[.pointer (some ⟨g, 0, none⟩), .string s, .bool ok] w fun e w' => e = .returned (.tuple #[]) ∧ Wr B g w' (bs ++ s) (sp || !ok) ∧ Below B w w' ∧ Kp g w w' := by
  obtain ⟨hB, v, hx, hown⟩ := h
  obtain ⟨i0, hi, hz0, hz1, hz2⟩ := info_parts info8
  have Hi := Lib.hid (And.intro hi (And.intro hz0 (And.intro hz1 hz2)))
  have X := Lib.hid hx
  have O := Lib.hid hown
  have hBw : B ≤ w.heap.size := Nat.le_trans hB (Nat.le_of_lt hx.lt)
  have c0 : _ = some v := hx.cell 0
  have c1 : _ = some (Value.bool sp) := hx.cell 1
  have f0 := hx.free 0
  have f1 := hx.free 1
  clear hi hz0 hz1 hz2 hx hown
  go_enter Tryz.func44, Tryz.ntmps44
  go_wp2_with (at_builtin; refine Lib.wpList_append_own_string _ rfl _ _ 64 9 rfl B 5 i0 Tryz.underlying64 Tryz.underlying9 ?q1 ?q2 ?q3 ?q4 _ bs.size (Lib.strCells bs) rfl ?q5 s rfl ?q7 ?q6 hBw ?_)
  case q1 => exact Hi.out.1
  case q2 => exact Hi.out.2.1
  case q3 => exact Hi.out.2.2.1
  case q4 => exact Hi.out.2.2.2
  case q5 => exact O.out
  case q6 => omega
  case q7 => unfold maxLen; omega
  intro v' w4 hown4 hg4 hlt4
  have B4 := Lib.hid ((Below.refl B w).grown hg4 hBw (fun k hk => (World.ownsRow.lt O.out k hk).1))
  have K4 := Lib.hid ((Kp.refl g w).grown hg4 O.out)
  have X4 := Lib.hid (((Kp.refl (g + 1) w).grown hg4 O.out).box X.out (by omega) (by decide))
  rw [← strCells_append, ← ByteArray.size_append] at hown4
  obtain ⟨a4, c4, rfl⟩ := row_form hown4
  have O4 := Lib.hid hown4
  clear hg4 hown4 hlt4 c0 c1 f0 f1
  have c0 : _ = some v := X4.out.cell 0
  have c1 : _ = some (Value.bool sp) := X4.out.cell 1
  have f0 := X4.out.free 0
  have f1 := X4.out.free 1
  have hB4 := B4.out.size
  cases sp <;> cases ok
  all_goals
    go_wp2_with fail
    go_end0
    refine ⟨rfl, ⟨hB, .slice a4 (bs ++ s).size c4, ?_, ?_⟩, (B4.out.setCell hB _).setCell hB _, (K4.out.set _).set _⟩
    · simp only [ByteArray.size_append]
      exact (X4.out.set 0 _).set 1 _
    · exact own_set (own_set O4.out X4.out (by decide)) (X4.out.set 0 _) (by decide)
theorem Wr.below {B g : Nat} {w w' : World} {bs : ByteArray} {sp : Bool} (h : Wr B g w bs sp) (hb : Below w.heap.size w w') : Wr B g w' bs sp := by
  obtain ⟨hB, v, hx, h1, h2⟩ := h
  exact ⟨hB, v, hx.below hb hx.lt, h1, h2.imp id (fun ⟨g, cap, cur, h1, h2, h3, h4⟩ => ⟨g, cap, cur, h1, h2, (hb.block g (Array.getElem?_eq_some_iff.1 h3).1).trans h3, h4⟩)⟩
theorem Wr.lt {B g : Nat} {w : World} {bs : ByteArray} {sp : Bool} (h : Wr B g w bs sp) : B ≤ g ∧ g < w.heap.size := by
  obtain ⟨hB, v, hx, _⟩ := h
  exact ⟨hB, hx.lt⟩
set_option maxHeartbeats 2000000 in
theorem iWhole (B g : Nat) (w : World) (bs : ByteArray) (sp : Bool) (h : Wr B g w bs sp) :
    Calls Tryz.prog 51 #[.pointer (some ⟨g, 0, none⟩)] w fun e w' => e = .returned (.tuple #[.string (if sp then ByteArray.empty else bs), .bool (!sp)]) ∧ Below w.heap.size w w' := by
  obtain ⟨hB, v, hx, hown⟩ := h
  have c0 : _ = some v := hx.cell 0
  have c1 : _ = some (Value.bool sp) := hx.cell 1
  rw [strCells_nums] at hown
  obtain ⟨a, c, rfl⟩ := row_form hown
  have kc := convOwn hown
  rw [strOf_nums] at kc
  clear hx hown
  cases sp
  all_goals
    go_enter Tryz.func51, Tryz.ntmps51
    go_wp2_with fail
    go_ret2
    exact ⟨rfl, Below.refl _ _⟩

/-- The byte of a number. -/
def byteB (n : Int) : ByteArray := strOfNums [n % 256]
set_option maxHeartbeats 4000000 in
theorem iPutByte (B g : Nat) (n lo hi : Int) (q : Bool) (w : World) (bs : ByteArray) (sp : Bool) (h : Wr B g w bs sp) (hs : bs.size + 1 ≤ 100000000) (hq : (decide (lo ≤ n) && decide (n ≤ hi)) = q) :
    Calls Tryz.prog 97 #[.pointer (some ⟨g, 0, none⟩), .int .i64 n, .int .i64 lo, .int .i64 hi] w fun e w' => e = .returned (.tuple #[]) ∧ Wr B g w' (bs ++ byteB n) (sp || !q) ∧ Below B w w' ∧ Kp g w w' := by
  have H := Lib.hid h
  have hl := h.lt
  have kc := conv1
  have hsz : (byteB n).size = 1 := by unfold byteB; rw [strOfNums_size]; rfl
  have HP := Lib.hid (fun W (hW : Wr B g W bs sp) => iPut B g (byteB n) q W bs sp hW (by omega))
  clear h hs
  cases h1 : decide (lo ≤ n) <;> cases h2 : decide (n ≤ hi)
  all_goals
    rw [h1, h2] at hq
    subst hq
    go_enter Tryz.func97, Tryz.ntmps97
    go_wp2_with fail
    refine (HP.out _ (H.out.below ((Below.refl _ _).alloc (Nat.le_refl _) _))).mono ?_
    rintro e w1 ⟨rfl, hW, hb, hk⟩
    have HW := Lib.hid hW
    have B1 := Lib.hid (((Below.refl B w).alloc (by omega) (.cells #[.int .u8 (n % 256)] 5)).trans hb)
    have K1 := Lib.hid ((Kp.of_below ((Below.refl w.heap.size w).alloc (Nat.le_refl _) (.cells #[.int .u8 (n % 256)] 5))).trans hk)
    clear hW hb hk
    go_wp2_with fail
    go_end0
    exact ⟨rfl, HW.out, B1.out, K1.out⟩

def wholeN (n : Int) : Prop := -1000000000 ≤ n ∧ n ≤ 1000000000
instance (n : Int) : Decidable (wholeN n) := by unfold wholeN; infer_instance
def numB (n : Int) : ByteArray := strOfNums (vb (foldZ n).toNat)
def numPart (n : Int) : ByteArray := if wholeN n then numB n else ByteArray.empty
theorem numB_size {n : Int} (h : wholeN n) : (numB n).size ≤ 5 := by
  have hb := foldZ_bd h.1 h.2
  have := vb_len 4 (foldZ n).toNat (by omega)
  unfold numB
  rw [strOfNums_size]
  omega
theorem numPart_size (n : Int) : (numPart n).size ≤ 5 := by
  unfold numPart
  split
  · rename_i h
    exact numB_size h
  · exact Nat.zero_le _
theorem iNum (n : Int) (w : World) : Calls Tryz.prog 101 #[.int .i64 n] w fun e w' => e = .returned (.tuple #[.string (numPart n), .bool (decide (wholeN n))]) ∧ Below w.heap.size w w' := by
  by_cases h : wholeN n
  · have hb := foldZ_bd h.1 h.2
    have := iNumBytes_in n (foldZ n).toNat w h.1 h.2 (by omega)
    unfold numPart
    rw [if_pos h, decide_eq_true h]
    exact this
  · have := iNumBytes_out n w (by unfold wholeN at h; omega)
    unfold numPart
    rw [if_neg h, decide_eq_false h]
    exact this
set_option maxHeartbeats 4000000 in
theorem iPutNumber (B g : Nat) (n lo hi : Int) (q : Bool) (w : World) (bs : ByteArray) (sp : Bool) (h : Wr B g w bs sp) (hs : bs.size + 5 ≤ 100000000) (hq : (decide (wholeN n) && decide (lo ≤ n) && decide (n ≤ hi)) = q) :
    Calls Tryz.prog 96 #[.pointer (some ⟨g, 0, none⟩), .int .i64 n, .int .i64 lo, .int .i64 hi] w fun e w' => e = .returned (.tuple #[]) ∧ Wr B g w' (bs ++ numPart n) (sp || !q) ∧ Below B w w' ∧ Kp g w w' := by
  have H := Lib.hid h
  have hl := h.lt
  have hsz := numPart_size n
  have HP := Lib.hid (fun q W (hW : Wr B g W bs sp) => iPut B g (numPart n) q W bs sp hW (by omega))
  have HN := Lib.hid (iNum n w)
  clear h hs
  generalize numPart n = part at *
  cases h0 : decide (wholeN n) <;> cases h1 : decide (lo ≤ n) <;> cases h2 : decide (n ≤ hi)
  all_goals
    rw [h0, h1, h2] at hq
    rw [h0] at HN
    subst hq
    go_enter Tryz.func96, Tryz.ntmps96
    go_wp2_with fail
    refine HN.out.mono ?_
    rintro e w1 ⟨rfl, hb1⟩
    have H1 := Lib.hid (H.out.below hb1)
    have B1 := Lib.hid (hb1.mono (show B ≤ _ by omega))
    have K1 := Lib.hid (Kp.of_below (g := g) hb1)
    clear hb1
    go_wp2_with fail
    refine (HP.out _ _ H1.out).mono ?_
    rintro e w2 ⟨rfl, hW, hb, hk⟩
    have HW := Lib.hid hW
    have B2 := Lib.hid (B1.out.trans hb)
    have K2 := Lib.hid (K1.out.trans hk)
    clear hW hb hk
    go_wp2_with fail
    go_end0
    exact ⟨rfl, HW.out, B2.out, K2.out⟩

open Classical in
noncomputable def namePart (s : ByteArray) : ByteArray := if nameP s then nbytes s else ByteArray.empty
theorem namePart_size (s : ByteArray) : (namePart s).size ≤ 11 := by
  unfold namePart
  split
  · rename_i h
    unfold nbytes
    have := h.2.1
    rw [ByteArray.size_append, strOfNums_size]
    simp
    omega
  · exact Nat.zero_le _
theorem iName (s : ByteArray) (w : World) (hs : s.size ≤ maxLen) : Calls Tryz.prog 45 #[.string s] w fun e w' => e = .returned (.tuple #[.string (namePart s), .bool (nameB s)]) ∧ Below w.heap.size w w' := by
  by_cases h : nameP s
  · unfold namePart
    rw [if_pos h, nameB_true h]
    exact iNameBytes_yes s w hs h
  · unfold namePart
    rw [if_neg h, nameB_false h]
    refine (iNameBytes_no s w hs (nameB_false h)).mono ?_
    rintro e w' ⟨rfl, rfl⟩
    exact ⟨rfl, Below.refl _ _⟩
def fzeroB : ByteArray := { data := #[0] }
noncomputable def mayPart (s : ByteArray) : ByteArray := if s.toList.isEmpty then fzeroB else namePart s
noncomputable def mayB (s : ByteArray) : Bool := s.toList.isEmpty || nameB s
theorem mayPart_size (s : ByteArray) : (mayPart s).size ≤ 11 := by
  unfold mayPart
  split
  · show 1 ≤ 11
    omega
  · exact namePart_size s
set_option maxHeartbeats 4000000 in
theorem iPutMaybe (B g : Nat) (s : ByteArray) (q : Bool) (w : World) (bs : ByteArray) (sp : Bool) (h : Wr B g w bs sp) (hs : bs.size + 11 ≤ 100000000) (hl : s.size ≤ maxLen) (hq : mayB s = q) :
    Calls Tryz.prog 98 #[.pointer (some ⟨g, 0, none⟩), .string s] w fun e w' => e = .returned (.tuple #[]) ∧ Wr B g w' (bs ++ mayPart s) (sp || !q) ∧ Below B w w' ∧ Kp g w w' := by
  have H := Lib.hid h
  have hlt := h.lt
  have hsz := namePart_size s
  have HP := Lib.hid (fun q W (hW : Wr B g W bs sp) => iPut B g (namePart s) q W bs sp hW (by omega))
  have HZ := Lib.hid (iPut B g fzeroB true w bs sp h (by show bs.size + 1 ≤ _; omega))
  have HN := Lib.hid (iName s w hl)
  clear h hs
  cases he : s.toList.isEmpty
  · have e1 : mayPart s = namePart s := by unfold mayPart; rw [he]; rfl
    have e2 : q = nameB s := by rw [← hq]; unfold mayB; rw [he]; rfl
    rw [e1, e2]
    clear e1 e2 hq
    generalize namePart s = part at *
    generalize nameB s = r at *
    go_enter Tryz.func98, Tryz.ntmps98
    go_wp2_with fail
    refine HN.out.mono ?_
    rintro e w1 ⟨rfl, hb1⟩
    have H1 := Lib.hid (H.out.below hb1)
    have B1 := Lib.hid (hb1.mono (show B ≤ _ by omega))
    have K1 := Lib.hid (Kp.of_below (g := g) hb1)
    clear hb1
    go_wp2_with fail
    refine (HP.out _ _ H1.out).mono ?_
    rintro e w2 ⟨rfl, hW, hb, hk⟩
    have HW := Lib.hid hW
    have B2 := Lib.hid (B1.out.trans hb)
    have K2 := Lib.hid (K1.out.trans hk)
    clear hW hb hk
    go_wp2_with fail
    go_end0
    exact ⟨rfl, HW.out, B2.out, K2.out⟩
  · have e1 : mayPart s = fzeroB := by unfold mayPart; rw [he]; rfl
    have e2 : q = true := by rw [← hq]; unfold mayB; rw [he]; rfl
    rw [e1, e2]
    clear e1 e2 hq
    go_enter Tryz.func98, Tryz.ntmps98
    go_wp2_with fail
    refine HZ.out.mono ?_
    rintro e w2 ⟨rfl, hW, hb, hk⟩
    have HW := Lib.hid hW
    have B2 := Lib.hid hb
    have K2 := Lib.hid hk
    clear hW hb hk
    go_wp2_with fail
    refine bodyPost_ret (results_none rfl _ _ _) rfl ?_
    exact ⟨rfl, HW.out, B2.out, K2.out⟩
end Go.Proofs.YtaccifjkeblhpaaGreat

namespace Go.Proofs.YtaccifjkeblhpaaGreat
open Go.ChangeShapes Go.WideShapes Go.ChangeAt Go.RowKit
set_option maxRecDepth 100000

theorem ba_assoc (a b c : ByteArray) : a ++ b ++ c = a ++ (b ++ c) := by
  apply ByteArray.ext
  simp [Array.append_assoc]
theorem ba_empty (a : ByteArray) : a ++ ByteArray.empty = a := by
  apply ByteArray.ext
  simp
theorem or_and3 (s a b c : Bool) : (((s || !a) || !b) || !c) = (s || !(a && (b && c))) := by cases s <;> cases a <;> cases b <;> cases c <;> rfl
theorem or_and (s a b : Bool) : ((s || !a) || !b) = (s || !(a && b)) := by cases s <;> cases a <;> cases b <;> rfl
noncomputable def paramPart (t : ParamD) : ByteArray := namePart t.fName ++ (byteB (if t.fByVar then 1 else 0) ++ numPart t.fType)
noncomputable def paramB (t : ParamD) : Bool := nameB t.fName && (decide (wholeN t.fType) && decide (0 ≤ t.fType) && decide (t.fType ≤ 24))
noncomputable def fieldPart (t : FieldD) : ByteArray := byteB t.fMark ++ (mayPart t.fName ++ numPart t.fType)
noncomputable def fieldB (t : FieldD) : Bool := (decide (0 ≤ t.fMark) && decide (t.fMark ≤ 2)) && (mayB t.fName && (decide (wholeN t.fType) && decide (0 ≤ t.fType) && decide (t.fType ≤ 24)))
theorem byteB_size (n : Int) : (byteB n).size = 1 := by unfold byteB; rw [strOfNums_size]; rfl
theorem paramPart_size (t : ParamD) : (paramPart t).size ≤ 17 := by
  unfold paramPart
  simp only [ByteArray.size_append, byteB_size]
  have := namePart_size t.fName
  have := numPart_size t.fType
  omega
theorem fieldPart_size (t : FieldD) : (fieldPart t).size ≤ 17 := by
  unfold fieldPart
  simp only [ByteArray.size_append, byteB_size]
  have := mayPart_size t.fName
  have := numPart_size t.fType
  omega

def bvZ : Bool → Int
  | true => 1
  | false => 0
theorem iByVar (nm : ByteArray) (bv : Bool) (ty : Int) (w : World) : Calls Tryz.prog 140 #[.agg #[.string nm, .bool bv, .int .i64 ty]] w fun e w' => e = .returned (.int .i64 (bvZ bv)) ∧ Below w.heap.size w w' := by
  cases bv
  all_goals
    go_enter Tryz.func140, Tryz.ntmps140
    go_wp2_with fail
    go_ret
    exact ⟨rfl, (Below.refl _ _).alloc (Nat.le_refl _) _⟩
set_option maxHeartbeats 8000000 in
theorem iWriteParam (B g : Nat) (t : ParamD) (w : World) (bs : ByteArray) (sp : Bool) (h : Wr B g w bs sp) (hs : bs.size + 17 ≤ 100000000) (hn : t.fName.size ≤ maxLen) :
    Calls Tryz.prog 103 #[.pointer (some ⟨g, 0, none⟩), .agg #[.string t.fName, .bool t.fByVar, .int .i64 t.fType]] w fun e w' => e = .returned (.tuple #[]) ∧ Wr B g w' (bs ++ paramPart t) (sp || !paramB t) ∧ Below B w w' ∧ Kp g w w' := by
  have hl := h.lt
  have H0 := Lib.hid (h.below ((Below.refl w.heap.size w).alloc (Nat.le_refl _) (.cells #[.string t.fName, .bool t.fByVar, .int .i64 t.fType] 107)))
  have X0 := Lib.hid (Box.new w 107 #[.string t.fName, .bool t.fByVar, .int .i64 t.fType])
  have B0 := Lib.hid ((Below.refl B w).alloc (by omega) (.cells #[.string t.fName, .bool t.fByVar, .int .i64 t.fType] 107))
  have K0 := Lib.hid (Kp.of_below (g := g) ((Below.refl w.heap.size w).alloc (Nat.le_refl _) (.cells #[.string t.fName, .bool t.fByVar, .int .i64 t.fType] 107)))
  have z1 := namePart_size t.fName
  have z2 := numPart_size t.fType
  have HN := Lib.hid (fun W => iName t.fName W hn)
  clear h
  have Fin := Lib.hid (show ∀ W, Wr B g W (bs ++ namePart t.fName ++ byteB (if t.fByVar then 1 else 0) ++ numPart t.fType) (((sp || !nameB t.fName) || !true) || !(decide (wholeN t.fType) && decide (0 ≤ t.fType) && decide (t.fType ≤ 24))) → Wr B g W (bs ++ paramPart t) (sp || !paramB t) from fun W h => by
    unfold paramPart paramB
    rw [ba_assoc, ba_assoc] at h
    rw [show (((sp || !nameB t.fName) || !true) || !(decide (wholeN t.fType) && decide (0 ≤ t.fType) && decide (t.fType ≤ 24))) = (sp || !(nameB t.fName && (decide (wholeN t.fType) && decide (0 ≤ t.fType) && decide (t.fType ≤ 24)))) by rw [Bool.not_true, Bool.or_false, or_and]] at h
    exact h)
  obtain ⟨nm, bv, ty⟩ := t
  dsimp only at *
  have hq3 := (rfl : (decide (wholeN ty) && decide (0 ≤ ty) && decide (ty ≤ 24)) = _)
  cases bv
  all_goals
    go_enter Tryz.func103, Tryz.ntmps103
    go_wp2_with fail
    refine (HN.out _).mono ?_
    rintro e w1 ⟨rfl, hb1⟩
    have H1 := Lib.hid (H0.out.below hb1)
    have X1 := Lib.hid (X0.out.below hb1 (Box.lt X0.out))
    have B1 := Lib.hid (B0.out.trans (hb1.mono (by simp; omega)))
    have K1 := Lib.hid (K0.out.trans (Kp.of_below hb1))
    clear hb1
    go_wp2_with fail
    refine (iPut B g (namePart nm) (nameB nm) _ _ _ H1.out (by omega)).mono ?_
    rintro e w2 ⟨rfl, hW, hb, hk⟩
    have H2 := Lib.hid hW
    have X2 := Lib.hid (hk.box X1.out (by omega) (by decide))
    have B2 := Lib.hid (B1.out.trans hb)
    have K2 := Lib.hid (K1.out.trans hk)
    clear hW hb hk
    have x0 : _ = some (Value.string nm) := X2.out.cell 0
    have x1 : _ = some (Value.bool _) := X2.out.cell 1
    have x2 : _ = some (Value.int .i64 ty) := X2.out.cell 2
    go_wp2_with fail
    refine (iByVar nm _ ty _).mono ?_
    rintro e v2 ⟨rfl, hbv⟩
    have G2 := Lib.hid (H2.out.below hbv)
    have Y2 := Lib.hid (X2.out.below hbv (Box.lt X2.out))
    have D2 := Lib.hid (B2.out.trans (hbv.mono (Nat.le_trans H2.out.lt.1 (Nat.le_of_lt H2.out.lt.2))))
    have E2 := Lib.hid (K2.out.trans (Kp.of_below (g := g) hbv))
    clear hbv
    go_wp2_with fail
    refine (iPutByte B g _ 0 1 true _ _ _ G2.out (by first | omega | (simp only [ByteArray.size_append]; omega) | (simp only [ByteArray.size_append, byteB_size]; omega)) rfl).mono ?_
    clear x0 x1 x2
    rintro e w3 ⟨rfl, hW, hb, hk⟩
    have H3 := Lib.hid hW
    have X3 := Lib.hid (hk.box Y2.out (by omega) (by decide))
    have B3 := Lib.hid (D2.out.trans hb)
    have K3 := Lib.hid (E2.out.trans hk)
    clear hW hb hk
    have x0 : _ = some (Value.string nm) := X3.out.cell 0
    have x1 : _ = some (Value.bool _) := X3.out.cell 1
    have x2 : _ = some (Value.int .i64 ty) := X3.out.cell 2
    go_wp2_with fail
    refine (iPutNumber B g ty 0 24 _ _ _ _ H3.out (by first | omega | (simp only [ByteArray.size_append]; omega) | (simp only [ByteArray.size_append, byteB_size]; omega)) rfl).mono ?_
    clear x0 x1 x2
    rintro e w4 ⟨rfl, hW, hb, hk⟩
    have H4 := Lib.hid hW
    have X4 := Lib.hid (hk.box X3.out (by omega) (by decide))
    have B4 := Lib.hid (B3.out.trans hb)
    have K4 := Lib.hid (K3.out.trans hk)
    clear hW hb hk
    go_wp2_with fail
    go_end0
    exact ⟨rfl, Fin.out _ H4.out, B4.out, K4.out⟩

set_option maxHeartbeats 8000000 in
theorem iWriteField (B g : Nat) (t : FieldD) (w : World) (bs : ByteArray) (sp : Bool) (h : Wr B g w bs sp) (hs : bs.size + 17 ≤ 100000000) (hn : t.fName.size ≤ maxLen) :
    Calls Tryz.prog 100 #[.pointer (some ⟨g, 0, none⟩), .agg #[.string t.fName, .int .i64 t.fMark, .int .i64 t.fType]] w fun e w' => e = .returned (.tuple #[]) ∧ Wr B g w' (bs ++ fieldPart t) (sp || !fieldB t) ∧ Below B w w' ∧ Kp g w w' := by
  have hl := h.lt
  have H0 := Lib.hid (h.below ((Below.refl w.heap.size w).alloc (Nat.le_refl _) (.cells #[.string t.fName, .int .i64 t.fMark, .int .i64 t.fType] 135)))
  have X0 := Lib.hid (Box.new w 135 #[.string t.fName, .int .i64 t.fMark, .int .i64 t.fType])
  have B0 := Lib.hid ((Below.refl B w).alloc (by omega) (.cells #[.string t.fName, .int .i64 t.fMark, .int .i64 t.fType] 135))
  have K0 := Lib.hid (Kp.of_below (g := g) ((Below.refl w.heap.size w).alloc (Nat.le_refl _) (.cells #[.string t.fName, .int .i64 t.fMark, .int .i64 t.fType] 135)))
  have z1 := mayPart_size t.fName
  have z2 := numPart_size t.fType
  clear h
  have Fin := Lib.hid (show ∀ W, Wr B g W (bs ++ byteB t.fMark ++ mayPart t.fName ++ numPart t.fType) (((sp || !(decide (0 ≤ t.fMark) && decide (t.fMark ≤ 2))) || !mayB t.fName) || !(decide (wholeN t.fType) && decide (0 ≤ t.fType) && decide (t.fType ≤ 24))) → Wr B g W (bs ++ fieldPart t) (sp || !fieldB t) from fun W h => by
    unfold fieldPart fieldB
    rw [ba_assoc, ba_assoc] at h
    rw [or_and3] at h
    exact h)
  obtain ⟨nm, mk, ty⟩ := t
  dsimp only at *
  all_goals
    go_enter Tryz.func100, Tryz.ntmps100
    have x0 : _ = some (Value.string nm) := X0.out.cell 0
    have x1 : _ = some (Value.int .i64 mk) := X0.out.cell 1
    have x2 : _ = some (Value.int .i64 ty) := X0.out.cell 2
    go_wp2_with fail
    refine (iPutByte B g mk 0 2 _ _ _ _ H0.out (by omega) rfl).mono ?_
    clear x0 x1 x2
    rintro e w1 ⟨rfl, hW, hb, hk⟩
    have H1 := Lib.hid hW
    have X1 := Lib.hid (hk.box X0.out (by omega) (by decide))
    have B1 := Lib.hid (B0.out.trans hb)
    have K1 := Lib.hid (K0.out.trans hk)
    clear hW hb hk
    have x0 : _ = some (Value.string nm) := X1.out.cell 0
    have x1 : _ = some (Value.int .i64 mk) := X1.out.cell 1
    have x2 : _ = some (Value.int .i64 ty) := X1.out.cell 2
    go_wp2_with fail
    refine (iPutMaybe B g nm _ _ _ _ H1.out (by first | omega | (simp only [ByteArray.size_append]; omega) | (simp only [ByteArray.size_append, byteB_size]; omega)) hn rfl).mono ?_
    clear x0 x1 x2
    rintro e w2 ⟨rfl, hW, hb, hk⟩
    have H2 := Lib.hid hW
    have X2 := Lib.hid (hk.box X1.out (by omega) (by decide))
    have B2 := Lib.hid (B1.out.trans hb)
    have K2 := Lib.hid (K1.out.trans hk)
    clear hW hb hk
    have x0 : _ = some (Value.string nm) := X2.out.cell 0
    have x1 : _ = some (Value.int .i64 mk) := X2.out.cell 1
    have x2 : _ = some (Value.int .i64 ty) := X2.out.cell 2
    go_wp2_with fail
    refine (iPutNumber B g ty 0 24 _ _ _ _ H2.out (by first | omega | (simp only [ByteArray.size_append]; omega) | (simp only [ByteArray.size_append, byteB_size]; omega)) rfl).mono ?_
    clear x0 x1 x2
    rintro e w3 ⟨rfl, hW, hb, hk⟩
    have H3 := Lib.hid hW
    have X3 := Lib.hid (hk.box X2.out (by omega) (by decide))
    have B3 := Lib.hid (B2.out.trans hb)
    have K3 := Lib.hid (K2.out.trans hk)
    clear hW hb hk
    go_wp2_with fail
    go_end0
    exact ⟨rfl, Fin.out _ H3.out, B3.out, K3.out⟩

/-- Parts one behind another. -/
noncomputable def catP {T : Type} (f : T → ByteArray) : List T → ByteArray
  | [] => ByteArray.empty
  | x :: l => f x ++ catP f l
theorem ba_nil (a : ByteArray) : ByteArray.empty ++ a = a := by
  apply ByteArray.ext
  simp
theorem catP_snoc {T : Type} (f : T → ByteArray) : ∀ (l : List T) (x : T), catP f (l ++ [x]) = catP f l ++ f x
  | [], x => by show f x ++ ByteArray.empty = ByteArray.empty ++ f x; rw [ba_empty, ba_nil]
  | y :: l, x => by show f y ++ catP f (l ++ [x]) = f y ++ catP f l ++ f x; rw [catP_snoc f l x, ba_assoc]
theorem catP_size {T : Type} (f : T → ByteArray) (n : Nat) (hf : ∀ x, (f x).size ≤ n) : ∀ l : List T, (catP f l).size ≤ l.length * n
  | [] => by show 0 ≤ _; omega
  | x :: l => by
    show (f x ++ catP f l).size ≤ _
    rw [ByteArray.size_append, List.length_cons, Nat.add_mul, Nat.one_mul]
    have := hf x
    have := catP_size f n hf l
    omega
theorem take_more {T : Type} {l : List T} {k : Nat} (hk : k < l.length) : l.take (k + 1) = l.take k ++ [l[k]] := by
  rw [List.take_add_one, List.getElem?_eq_getElem hk]
  rfl
theorem all_more {T : Type} (f : T → Bool) {l : List T} {k : Nat} (hk : k < l.length) : (l.take (k + 1)).all f = ((l.take k).all f && f l[k]) := by
  rw [take_more hk, List.all_append]
  simp
/-- How many there are, and each of them. -/
noncomputable def eachPart {T : Type} (f : T → ByteArray) (l : List T) : ByteArray := numPart (l.length : Int) ++ catP f l
noncomputable def eachB {T : Type} (f : T → Bool) (most : Int) (l : List T) : Bool := (decide (wholeN (l.length : Int)) && decide ((0 : Int) ≤ (l.length : Int)) && decide ((l.length : Int) ≤ most)) && l.all f

set_option maxHeartbeats 16000000 in
theorem iEachParam (wB : World) (g : Nat) (a : Option Addr) (c : Nat) (l : List ParamD) (most : Int) (w : World) (bs : ByteArray) (sp : Bool) (h : Wr wB.heap.size g w bs sp) (hb0 : Below wB.heap.size wB w) (hs : bs.size + 5 + 17 * l.length + 17 ≤ 100000000) (hr : Rows paramS Any wB a l) (hn : ∀ t ∈ l, t.fName.size ≤ maxLen) :
    Calls Tryz.prog 102 #[.pointer (some ⟨g, 0, none⟩), .slice a l.length c, .int .i64 most, .func (.func 103) #[] #[]] w fun e w' => e = .returned (.tuple #[]) ∧ Wr wB.heap.size g w' (bs ++ eachPart paramPart l) (sp || !eachB paramB most l) ∧ Below wB.heap.size wB w' ∧ Kp g w w' := by
  have hlt := h.lt
  have z1 := numPart_size (l.length : Int)
  have HP := Lib.hid (iPutNumber wB.heap.size g (l.length : Int) 0 most _ w bs sp h (by omega) rfl)
  have Hr := Lib.hid hr
  have Hn := Lib.hid hn
  have Hb0 := Lib.hid hb0
  have Fin := Lib.hid (show ∀ W, Wr wB.heap.size g W (bs ++ numPart (l.length : Int) ++ catP paramPart (l.take l.length)) ((sp || !(decide (wholeN (l.length : Int)) && decide ((0 : Int) ≤ (l.length : Int)) && decide ((l.length : Int) ≤ most))) || !(l.take l.length).all paramB) → Wr wB.heap.size g W (bs ++ eachPart paramPart l) (sp || !eachB paramB most l) from fun W h => by
    unfold eachPart eachB
    rw [List.take_length, ba_assoc, or_and] at h
    exact h)
  have hB := Nat.le_trans hlt.1 (Nat.le_of_lt hlt.2)
  clear h hr hn hb0
  generalize (sp || !(decide (wholeN (l.length : Int)) && decide ((0 : Int) ≤ (l.length : Int)) && decide ((l.length : Int) ≤ most))) = sp1 at *
  have hsz1 : (bs ++ numPart (l.length : Int)).size ≤ bs.size + 5 := by rw [ByteArray.size_append]; omega
  generalize bs ++ numPart (l.length : Int) = bs1 at *
  go_enter Tryz.func102, Tryz.ntmps102
  go_wp2_with fail
  refine HP.out.mono ?_
  rintro e w1 ⟨rfl, hW, hb, hk⟩
  have H1 := Lib.hid hW
  have B1 := Lib.hid (Hb0.out.trans hb)
  have K1 := Lib.hid hk
  clear hW hb hk HP
  go_wp2_with fail
  go_loopw [17] (fun i wr => ∃ k : Nat, i = .int .i64 k ∧ k ≤ l.length ∧ Wr wB.heap.size g wr (bs1 ++ catP paramPart (l.take k)) (sp1 || !(l.take k).all paramB) ∧ Below wB.heap.size wB wr ∧ Kp g w wr) (fun i _ => l.length - (intOf i).toNat)
  case atStart => exact ⟨0, rfl, by omega, by simpa [catP, ba_empty] using H1.out, B1.out, K1.out⟩
  case round =>
    obtain ⟨k, rfl, hk, hw, hbel, hkp⟩ := hrel
    have hsr := hbel.size
    have hglt := hw.lt
    have H := Lib.hid hw
    have Bl := Lib.hid hbel
    have K := Lib.hid hkp
    clear hw hkp
    by_cases hlt : k < l.length
    · obtain ⟨b, o, cs, rfl, _, hb1, hc1, hat⟩ := Hr.out k hlt
      obtain rfl : cs = [.string l[k].fName, .bool l[k].fByVar, .int .i64 l[k].fType] := hat
      have e0 := (hbel.cell (p := ⟨b, o + k * 3 + 0, none⟩) hb1).trans (hc1 0 (by decide))
      have e1 := (hbel.cell (p := ⟨b, o + k * 3 + 1, none⟩) hb1).trans (hc1 1 (by decide))
      have e2 := (hbel.cell (p := ⟨b, o + k * 3 + 2, none⟩) hb1).trans (hc1 2 (by decide))
      simp at e0 e1 e2
      have hnk := Hn.out _ (List.getElem_mem hlt)
      have Hc := Lib.hid (show catP paramPart (l.take (k + 1)) = catP paramPart (l.take k) ++ paramPart l[k] by rw [take_more hlt, catP_snoc])
      have Ha := Lib.hid (all_more paramB hlt)
      have hcs : (catP paramPart (l.take k)).size ≤ k * 17 := Nat.le_trans (catP_size paramPart 17 paramPart_size _) (by rw [List.length_take]; exact Nat.mul_le_mul_right _ (Nat.min_le_left _ _))
      clear hbel hc1
      generalize l[k] = t at *
      have HA := Lib.hid (H.out.below ((Below.refl _ _).alloc (Nat.le_refl _) (.cells #[.string t.fName, .bool t.fByVar, .int .i64 t.fType] 107)))
      have BA := Lib.hid (Bl.out.alloc hsr (.cells #[.string t.fName, .bool t.fByVar, .int .i64 t.fType] 107))
      have KA := Lib.hid (K.out.alloc (.cells #[.string t.fName, .bool t.fByVar, .int .i64 t.fType] 107))
      go_wp2_with fail
      refine (iWriteParam wB.heap.size g t _ _ _ HA.out (by rw [ByteArray.size_append]; omega) hnk).mono ?_
      rintro e w2 ⟨rfl, hW, hb, hk2⟩
      have H2 := Lib.hid (show Wr wB.heap.size g w2 (bs1 ++ catP paramPart (l.take (k + 1))) (sp1 || !(l.take (k + 1)).all paramB) by
        rw [Hc.out, Ha.out, ← ba_assoc, ← or_and]
        exact hW)
      have B2 := Lib.hid (BA.out.trans hb)
      have K2 := Lib.hid (KA.out.trans hk2)
      clear hW hb hk2
      go_wp2_with fail
      exact ⟨⟨k + 1, by congr 1, by omega, H2.out, B2.out, K2.out⟩, by simp [intOf]; omega⟩
    · obtain rfl : k = l.length := by omega
      clear hbel
      go_wp2_with fail
      go_end0
      exact ⟨rfl, Fin.out _ H.out, Bl.out, K.out⟩

set_option maxHeartbeats 16000000 in
theorem iEachField (wB : World) (g : Nat) (a : Option Addr) (c : Nat) (l : List FieldD) (most : Int) (w : World) (bs : ByteArray) (sp : Bool) (h : Wr wB.heap.size g w bs sp) (hb0 : Below wB.heap.size wB w) (hs : bs.size + 5 + 17 * l.length + 17 ≤ 100000000) (hr : Rows fieldS Any wB a l) (hn : ∀ t ∈ l, t.fName.size ≤ maxLen) :
    Calls Tryz.prog 99 #[.pointer (some ⟨g, 0, none⟩), .slice a l.length c, .int .i64 most, .func (.func 100) #[] #[]] w fun e w' => e = .returned (.tuple #[]) ∧ Wr wB.heap.size g w' (bs ++ eachPart fieldPart l) (sp || !eachB fieldB most l) ∧ Below wB.heap.size wB w' ∧ Kp g w w' := by
  have hlt := h.lt
  have z1 := numPart_size (l.length : Int)
  have HP := Lib.hid (iPutNumber wB.heap.size g (l.length : Int) 0 most _ w bs sp h (by omega) rfl)
  have Hr := Lib.hid hr
  have Hn := Lib.hid hn
  have Hb0 := Lib.hid hb0
  have Fin := Lib.hid (show ∀ W, Wr wB.heap.size g W (bs ++ numPart (l.length : Int) ++ catP fieldPart (l.take l.length)) ((sp || !(decide (wholeN (l.length : Int)) && decide ((0 : Int) ≤ (l.length : Int)) && decide ((l.length : Int) ≤ most))) || !(l.take l.length).all fieldB) → Wr wB.heap.size g W (bs ++ eachPart fieldPart l) (sp || !eachB fieldB most l) from fun W h => by
    unfold eachPart eachB
    rw [List.take_length, ba_assoc, or_and] at h
    exact h)
  have hB := Nat.le_trans hlt.1 (Nat.le_of_lt hlt.2)
  clear h hr hn hb0
  generalize (sp || !(decide (wholeN (l.length : Int)) && decide ((0 : Int) ≤ (l.length : Int)) && decide ((l.length : Int) ≤ most))) = sp1 at *
  have hsz1 : (bs ++ numPart (l.length : Int)).size ≤ bs.size + 5 := by rw [ByteArray.size_append]; omega
  generalize bs ++ numPart (l.length : Int) = bs1 at *
  go_enter Tryz.func99, Tryz.ntmps99
  go_wp2_with fail
  refine HP.out.mono ?_
  rintro e w1 ⟨rfl, hW, hb, hk⟩
  have H1 := Lib.hid hW
  have B1 := Lib.hid (Hb0.out.trans hb)
  have K1 := Lib.hid hk
  clear hW hb hk HP
  go_wp2_with fail
  go_loopw [17] (fun i wr => ∃ k : Nat, i = .int .i64 k ∧ k ≤ l.length ∧ Wr wB.heap.size g wr (bs1 ++ catP fieldPart (l.take k)) (sp1 || !(l.take k).all fieldB) ∧ Below wB.heap.size wB wr ∧ Kp g w wr) (fun i _ => l.length - (intOf i).toNat)
  case atStart => exact ⟨0, rfl, by omega, by simpa [catP, ba_empty] using H1.out, B1.out, K1.out⟩
  case round =>
    obtain ⟨k, rfl, hk, hw, hbel, hkp⟩ := hrel
    have hsr := hbel.size
    have hglt := hw.lt
    have H := Lib.hid hw
    have Bl := Lib.hid hbel
    have K := Lib.hid hkp
    clear hw hkp
    by_cases hlt : k < l.length
    · obtain ⟨b, o, cs, rfl, _, hb1, hc1, hat⟩ := Hr.out k hlt
      obtain rfl : cs = [.string l[k].fName, .int .i64 l[k].fMark, .int .i64 l[k].fType] := hat
      have e0 := (hbel.cell (p := ⟨b, o + k * 3 + 0, none⟩) hb1).trans (hc1 0 (by decide))
      have e1 := (hbel.cell (p := ⟨b, o + k * 3 + 1, none⟩) hb1).trans (hc1 1 (by decide))
      have e2 := (hbel.cell (p := ⟨b, o + k * 3 + 2, none⟩) hb1).trans (hc1 2 (by decide))
      simp at e0 e1 e2
      have hnk := Hn.out _ (List.getElem_mem hlt)
      have Hc := Lib.hid (show catP fieldPart (l.take (k + 1)) = catP fieldPart (l.take k) ++ fieldPart l[k] by rw [take_more hlt, catP_snoc])
      have Ha := Lib.hid (all_more fieldB hlt)
      have hcs : (catP fieldPart (l.take k)).size ≤ k * 17 := Nat.le_trans (catP_size fieldPart 17 fieldPart_size _) (by rw [List.length_take]; exact Nat.mul_le_mul_right _ (Nat.min_le_left _ _))
      clear hbel hc1
      generalize l[k] = t at *
      have HA := Lib.hid (H.out.below ((Below.refl _ _).alloc (Nat.le_refl _) (.cells #[.string t.fName, .int .i64 t.fMark, .int .i64 t.fType] 135)))
      have BA := Lib.hid (Bl.out.alloc hsr (.cells #[.string t.fName, .int .i64 t.fMark, .int .i64 t.fType] 135))
      have KA := Lib.hid (K.out.alloc (.cells #[.string t.fName, .int .i64 t.fMark, .int .i64 t.fType] 135))
      go_wp2_with fail
      refine (iWriteField wB.heap.size g t _ _ _ HA.out (by rw [ByteArray.size_append]; omega) hnk).mono ?_
      rintro e w2 ⟨rfl, hW, hb, hk2⟩
      have H2 := Lib.hid (show Wr wB.heap.size g w2 (bs1 ++ catP fieldPart (l.take (k + 1))) (sp1 || !(l.take (k + 1)).all fieldB) by
        rw [Hc.out, Ha.out, ← ba_assoc, ← or_and]
        exact hW)
      have B2 := Lib.hid (BA.out.trans hb)
      have K2 := Lib.hid (KA.out.trans hk2)
      clear hW hb hk2
      go_wp2_with fail
      exact ⟨⟨k + 1, by congr 1, by omega, H2.out, B2.out, K2.out⟩, by simp [intOf]; omega⟩
    · obtain rfl : k = l.length := by omega
      clear hbel
      go_wp2_with fail
      go_end0
      exact ⟨rfl, Fin.out _ H.out, Bl.out, K.out⟩

end Go.Proofs.YtaccifjkeblhpaaGreat

namespace Go.Proofs.YtaccifjkeblhpaaGreat
open Go.ChangeShapes Go.WideShapes Go.ChangeAt Go.RowKit
set_option maxRecDepth 100000

def inB (lo hi n : Int) : Bool := decide (lo ≤ n) && decide (n ≤ hi)
def numIn (lo hi n : Int) : Bool := decide (wholeN n) && decide (lo ≤ n) && decide (n ≤ hi)
noncomputable def objPart (o : ObjectD) : ByteArray := byteB o.fKind ++ (byteB o.fMark ++ (namePart o.fName ++ (numPart o.fType ++ (numPart o.fValue ++ eachPart paramPart o.fParams))))
noncomputable def fobjB (o : ObjectD) : Bool := inB 1 4 o.fKind && (inB 0 2 o.fMark && (nameB o.fName && (numIn (-1) 24 o.fType && (decide (wholeN o.fValue) && eachB paramB 4 o.fParams))))
noncomputable def typePart (t : TypeD) : ByteArray := byteB t.fKind ++ (numPart t.fLong ++ (numPart t.fBase ++ (mayPart t.fOwner ++ (mayPart t.fName ++ eachPart fieldPart t.fFields))))
noncomputable def ftypeB (t : TypeD) : Bool := inB 4 6 t.fKind && (numIn 0 1000 t.fLong && (numIn (-1) 24 t.fBase && (mayB t.fOwner && (mayB t.fName && eachB fieldB 6 t.fFields))))
theorem iWhole_ok (B g : Nat) (w : World) (bs : ByteArray) (h : Wr B g w bs (!true)) : Calls Tryz.prog 51 #[.pointer (some ⟨g, 0, none⟩)] w fun e w' => e = .returned (.tuple #[.string bs, .bool true]) ∧ Below w.heap.size w w' := iWhole B g w bs false h
theorem or_and6 (s a b c d e f : Bool) : ((((((s || !a) || !b) || !c) || !d) || !e) || !f) = (s || !(a && (b && (c && (d && (e && f)))))) := by cases s <;> cases a <;> cases b <;> cases c <;> cases d <;> cases e <;> cases f <;> rfl

set_option maxHeartbeats 16000000 in
theorem iWriteObject (wB : World) (g : Nat) (t : ObjectD) (a : Option Addr) (c : Nat) (w : World) (bs : ByteArray) (sp : Bool) (h : Wr wB.heap.size g w bs sp) (hb0 : Below wB.heap.size wB w) (hs : bs.size + 60 + 17 * t.fParams.length + 17 ≤ 100000000) (hr : Rows paramS Any wB a t.fParams) (hn : ∀ x ∈ t.fParams, x.fName.size ≤ maxLen) (hno : t.fName.size ≤ maxLen) :
    Calls Tryz.prog 49 #[.pointer (some ⟨g, 0, none⟩), .agg #[.string t.fName, .int .i64 t.fKind, .int .i64 t.fMark, .int .i64 t.fType, .int .i64 t.fValue, .slice a t.fParams.length c]] w fun e w' => e = .returned (.tuple #[]) ∧ Wr wB.heap.size g w' (bs ++ objPart t) (sp || !fobjB t) ∧ Below wB.heap.size wB w' := by
  have hl := h.lt
  have hBw := hb0.size
  have H0 := Lib.hid (h.below ((Below.refl w.heap.size w).alloc (Nat.le_refl _) (.cells #[.string t.fName, .int .i64 t.fKind, .int .i64 t.fMark, .int .i64 t.fType, .int .i64 t.fValue, .slice a t.fParams.length c] 78)))
  have X0 := Lib.hid (Box.new w 78 #[.string t.fName, .int .i64 t.fKind, .int .i64 t.fMark, .int .i64 t.fType, .int .i64 t.fValue, .slice a t.fParams.length c])
  have B0 := Lib.hid (hb0.alloc hBw (.cells #[.string t.fName, .int .i64 t.fKind, .int .i64 t.fMark, .int .i64 t.fType, .int .i64 t.fValue, .slice a t.fParams.length c] 78))
  have Hr := Lib.hid hr
  have Hn := Lib.hid hn
  have Fin := Lib.hid (show ∀ W, Wr wB.heap.size g W (bs ++ byteB t.fKind ++ byteB t.fMark ++ namePart t.fName ++ numPart t.fType ++ numPart t.fValue ++ eachPart paramPart t.fParams) ((((((sp || !(inB 1 4 t.fKind)) || !(inB 0 2 t.fMark)) || !(nameB t.fName)) || !(numIn (-1) 24 t.fType)) || !(decide (wholeN t.fValue))) || !(eachB paramB 4 t.fParams)) → Wr wB.heap.size g W (bs ++ objPart t) (sp || !fobjB t) from fun W h => by
    unfold objPart fobjB
    rw [ba_assoc, ba_assoc, ba_assoc, ba_assoc, ba_assoc, or_and6] at h
    exact h)
  clear h hb0 hr hn
  have z1 := namePart_size t.fName
  have z2 := numPart_size t.fType
  have z3 := numPart_size t.fValue
  go_enter Tryz.func49, Tryz.ntmps49
  have x0 : _ = some (Value.string t.fName) := X0.out.cell 0
  have x1 : _ = some (Value.int .i64 t.fKind) := X0.out.cell 1
  have x2 : _ = some (Value.int .i64 t.fMark) := X0.out.cell 2
  have x3 : _ = some (Value.int .i64 t.fType) := X0.out.cell 3
  have x4 : _ = some (Value.int .i64 t.fValue) := X0.out.cell 4
  have x5 : _ = some (Value.slice a t.fParams.length c) := X0.out.cell 5
  go_wp2_with fail
  refine (iPutByte wB.heap.size g _ 1 4 _ _ _ _ H0.out (by first | omega | (simp only [ByteArray.size_append]; omega) | (simp only [ByteArray.size_append, byteB_size]; omega)) rfl).mono ?_
  clear x0 x1 x2 x3 x4 x5
  rintro e w1 ⟨rfl, hW, hb, hk⟩
  have H1 := Lib.hid hW
  have X1 := Lib.hid (hk.box X0.out (by omega) (by decide))
  have B1 := Lib.hid (B0.out.trans hb)
  clear hW hb hk
  have x0 : _ = some (Value.string t.fName) := X1.out.cell 0
  have x1 : _ = some (Value.int .i64 t.fKind) := X1.out.cell 1
  have x2 : _ = some (Value.int .i64 t.fMark) := X1.out.cell 2
  have x3 : _ = some (Value.int .i64 t.fType) := X1.out.cell 3
  have x4 : _ = some (Value.int .i64 t.fValue) := X1.out.cell 4
  have x5 : _ = some (Value.slice a t.fParams.length c) := X1.out.cell 5
  go_wp2_with fail
  refine (iPutByte wB.heap.size g _ 0 2 _ _ _ _ H1.out (by first | omega | (simp only [ByteArray.size_append]; omega) | (simp only [ByteArray.size_append, byteB_size]; omega)) rfl).mono ?_
  clear x0 x1 x2 x3 x4 x5
  rintro e w2 ⟨rfl, hW, hb, hk⟩
  have H2 := Lib.hid hW
  have X2 := Lib.hid (hk.box X1.out (by omega) (by decide))
  have B2 := Lib.hid (B1.out.trans hb)
  clear hW hb hk
  have x0 : _ = some (Value.string t.fName) := X2.out.cell 0
  have x1 : _ = some (Value.int .i64 t.fKind) := X2.out.cell 1
  have x2 : _ = some (Value.int .i64 t.fMark) := X2.out.cell 2
  have x3 : _ = some (Value.int .i64 t.fType) := X2.out.cell 3
  have x4 : _ = some (Value.int .i64 t.fValue) := X2.out.cell 4
  have x5 : _ = some (Value.slice a t.fParams.length c) := X2.out.cell 5
  go_wp2_with fail
  refine (iName _ _ hno).mono ?_
  rintro e v2 ⟨rfl, hb1⟩
  have G2 := Lib.hid (H2.out.below hb1)
  have Y2 := Lib.hid (X2.out.below hb1 (Box.lt X2.out))
  have D2 := Lib.hid (B2.out.trans (hb1.mono (Nat.le_trans (Nat.le_trans H2.out.lt.1 (Nat.le_of_lt H2.out.lt.2)) (Nat.le_refl _))))
  clear hb1
  go_wp2_with fail
  refine (iPut wB.heap.size g _ _ _ _ _ G2.out (by first | omega | (simp only [ByteArray.size_append]; omega) | (simp only [ByteArray.size_append, byteB_size]; omega))).mono ?_
  clear x0 x1 x2 x3 x4 x5
  rintro e w3 ⟨rfl, hW, hb, hk⟩
  have H3 := Lib.hid hW
  have X3 := Lib.hid (hk.box Y2.out (by omega) (by decide))
  have B3 := Lib.hid (D2.out.trans hb)
  clear hW hb hk
  have x0 : _ = some (Value.string t.fName) := X3.out.cell 0
  have x1 : _ = some (Value.int .i64 t.fKind) := X3.out.cell 1
  have x2 : _ = some (Value.int .i64 t.fMark) := X3.out.cell 2
  have x3 : _ = some (Value.int .i64 t.fType) := X3.out.cell 3
  have x4 : _ = some (Value.int .i64 t.fValue) := X3.out.cell 4
  have x5 : _ = some (Value.slice a t.fParams.length c) := X3.out.cell 5
  go_wp2_with fail
  refine (iPutNumber wB.heap.size g _ (-1) 24 _ _ _ _ H3.out (by first | omega | (simp only [ByteArray.size_append]; omega) | (simp only [ByteArray.size_append, byteB_size]; omega)) rfl).mono ?_
  clear x0 x1 x2 x3 x4 x5
  rintro e w4 ⟨rfl, hW, hb, hk⟩
  have H4 := Lib.hid hW
  have X4 := Lib.hid (hk.box X3.out (by omega) (by decide))
  have B4 := Lib.hid (B3.out.trans hb)
  clear hW hb hk
  have x0 : _ = some (Value.string t.fName) := X4.out.cell 0
  have x1 : _ = some (Value.int .i64 t.fKind) := X4.out.cell 1
  have x2 : _ = some (Value.int .i64 t.fMark) := X4.out.cell 2
  have x3 : _ = some (Value.int .i64 t.fType) := X4.out.cell 3
  have x4 : _ = some (Value.int .i64 t.fValue) := X4.out.cell 4
  have x5 : _ = some (Value.slice a t.fParams.length c) := X4.out.cell 5
  go_wp2_with fail
  refine (iNum _ _).mono ?_
  rintro e v4 ⟨rfl, hb1⟩
  have G4 := Lib.hid (H4.out.below hb1)
  have Y4 := Lib.hid (X4.out.below hb1 (Box.lt X4.out))
  have D4 := Lib.hid (B4.out.trans (hb1.mono (Nat.le_trans (Nat.le_trans H4.out.lt.1 (Nat.le_of_lt H4.out.lt.2)) (Nat.le_refl _))))
  clear hb1
  go_wp2_with fail
  refine (iPut wB.heap.size g _ _ _ _ _ G4.out (by first | omega | (simp only [ByteArray.size_append]; omega) | (simp only [ByteArray.size_append, byteB_size]; omega))).mono ?_
  clear x0 x1 x2 x3 x4 x5
  rintro e w5 ⟨rfl, hW, hb, hk⟩
  have H5 := Lib.hid hW
  have X5 := Lib.hid (hk.box Y4.out (by omega) (by decide))
  have B5 := Lib.hid (D4.out.trans hb)
  clear hW hb hk
  have x0 : _ = some (Value.string t.fName) := X5.out.cell 0
  have x1 : _ = some (Value.int .i64 t.fKind) := X5.out.cell 1
  have x2 : _ = some (Value.int .i64 t.fMark) := X5.out.cell 2
  have x3 : _ = some (Value.int .i64 t.fType) := X5.out.cell 3
  have x4 : _ = some (Value.int .i64 t.fValue) := X5.out.cell 4
  have x5 : _ = some (Value.slice a t.fParams.length c) := X5.out.cell 5
  go_wp2_with fail
  refine (iEachParam wB g a c _ 4 _ _ _ H5.out B5.out (by first | omega | (simp only [ByteArray.size_append]; omega) | (simp only [ByteArray.size_append, byteB_size]; omega)) Hr.out Hn.out).mono ?_
  rintro e w6 ⟨rfl, hW, hb, hk⟩
  have HW := Lib.hid hW
  have BW := Lib.hid hb
  clear hW hb hk
  go_wp2_with fail
  go_end0
  exact ⟨rfl, Fin.out _ HW.out, BW.out⟩

set_option maxHeartbeats 16000000 in
theorem iWriteType (wB : World) (g : Nat) (t : TypeD) (a : Option Addr) (c : Nat) (w : World) (bs : ByteArray) (sp : Bool) (h : Wr wB.heap.size g w bs sp) (hb0 : Below wB.heap.size wB w) (hs : bs.size + 60 + 17 * t.fFields.length + 17 ≤ 100000000) (hr : Rows fieldS Any wB a t.fFields) (hn : ∀ x ∈ t.fFields, x.fName.size ≤ maxLen) (hno : t.fOwner.size ≤ maxLen) (hnm : t.fName.size ≤ maxLen) :
    Calls Tryz.prog 47 #[.pointer (some ⟨g, 0, none⟩), .agg #[.int .i64 t.fKind, .int .i64 t.fLong, .int .i64 t.fBase, .slice a t.fFields.length c, .string t.fOwner, .string t.fName]] w fun e w' => e = .returned (.tuple #[]) ∧ Wr wB.heap.size g w' (bs ++ typePart t) (sp || !ftypeB t) ∧ Below wB.heap.size wB w' := by
  have hl := h.lt
  have hBw := hb0.size
  have H0 := Lib.hid (h.below ((Below.refl w.heap.size w).alloc (Nat.le_refl _) (.cells #[.int .i64 t.fKind, .int .i64 t.fLong, .int .i64 t.fBase, .slice a t.fFields.length c, .string t.fOwner, .string t.fName] 72)))
  have X0 := Lib.hid (Box.new w 72 #[.int .i64 t.fKind, .int .i64 t.fLong, .int .i64 t.fBase, .slice a t.fFields.length c, .string t.fOwner, .string t.fName])
  have B0 := Lib.hid (hb0.alloc hBw (.cells #[.int .i64 t.fKind, .int .i64 t.fLong, .int .i64 t.fBase, .slice a t.fFields.length c, .string t.fOwner, .string t.fName] 72))
  have Hr := Lib.hid hr
  have Hn := Lib.hid hn
  have Fin := Lib.hid (show ∀ W, Wr wB.heap.size g W (bs ++ byteB t.fKind ++ numPart t.fLong ++ numPart t.fBase ++ mayPart t.fOwner ++ mayPart t.fName ++ eachPart fieldPart t.fFields) ((((((sp || !(inB 4 6 t.fKind)) || !(numIn 0 1000 t.fLong)) || !(numIn (-1) 24 t.fBase)) || !(mayB t.fOwner)) || !(mayB t.fName)) || !(eachB fieldB 6 t.fFields)) → Wr wB.heap.size g W (bs ++ typePart t) (sp || !ftypeB t) from fun W h => by
    unfold typePart ftypeB
    rw [ba_assoc, ba_assoc, ba_assoc, ba_assoc, ba_assoc, or_and6] at h
    exact h)
  clear h hb0 hr hn
  have z1 := numPart_size t.fLong
  have z2 := numPart_size t.fBase
  have z3 := mayPart_size t.fOwner
  have z4 := mayPart_size t.fName
  go_enter Tryz.func47, Tryz.ntmps47
  have x0 : _ = some (Value.int .i64 t.fKind) := X0.out.cell 0
  have x1 : _ = some (Value.int .i64 t.fLong) := X0.out.cell 1
  have x2 : _ = some (Value.int .i64 t.fBase) := X0.out.cell 2
  have x3 : _ = some (Value.slice a t.fFields.length c) := X0.out.cell 3
  have x4 : _ = some (Value.string t.fOwner) := X0.out.cell 4
  have x5 : _ = some (Value.string t.fName) := X0.out.cell 5
  go_wp2_with fail
  refine (iPutByte wB.heap.size g _ 4 6 _ _ _ _ H0.out (by first | omega | (simp only [ByteArray.size_append]; omega) | (simp only [ByteArray.size_append, byteB_size]; omega)) rfl).mono ?_
  clear x0 x1 x2 x3 x4 x5
  rintro e w1 ⟨rfl, hW, hb, hk⟩
  have H1 := Lib.hid hW
  have X1 := Lib.hid (hk.box X0.out (by omega) (by decide))
  have B1 := Lib.hid (B0.out.trans hb)
  clear hW hb hk
  have x0 : _ = some (Value.int .i64 t.fKind) := X1.out.cell 0
  have x1 : _ = some (Value.int .i64 t.fLong) := X1.out.cell 1
  have x2 : _ = some (Value.int .i64 t.fBase) := X1.out.cell 2
  have x3 : _ = some (Value.slice a t.fFields.length c) := X1.out.cell 3
  have x4 : _ = some (Value.string t.fOwner) := X1.out.cell 4
  have x5 : _ = some (Value.string t.fName) := X1.out.cell 5
  go_wp2_with fail
  refine (iPutNumber wB.heap.size g _ 0 1000 _ _ _ _ H1.out (by first | omega | (simp only [ByteArray.size_append]; omega) | (simp only [ByteArray.size_append, byteB_size]; omega)) rfl).mono ?_
  clear x0 x1 x2 x3 x4 x5
  rintro e w2 ⟨rfl, hW, hb, hk⟩
  have H2 := Lib.hid hW
  have X2 := Lib.hid (hk.box X1.out (by omega) (by decide))
  have B2 := Lib.hid (B1.out.trans hb)
  clear hW hb hk
  have x0 : _ = some (Value.int .i64 t.fKind) := X2.out.cell 0
  have x1 : _ = some (Value.int .i64 t.fLong) := X2.out.cell 1
  have x2 : _ = some (Value.int .i64 t.fBase) := X2.out.cell 2
  have x3 : _ = some (Value.slice a t.fFields.length c) := X2.out.cell 3
  have x4 : _ = some (Value.string t.fOwner) := X2.out.cell 4
  have x5 : _ = some (Value.string t.fName) := X2.out.cell 5
  go_wp2_with fail
  refine (iPutNumber wB.heap.size g _ (-1) 24 _ _ _ _ H2.out (by first | omega | (simp only [ByteArray.size_append]; omega) | (simp only [ByteArray.size_append, byteB_size]; omega)) rfl).mono ?_
  clear x0 x1 x2 x3 x4 x5
  rintro e w3 ⟨rfl, hW, hb, hk⟩
  have H3 := Lib.hid hW
  have X3 := Lib.hid (hk.box X2.out (by omega) (by decide))
  have B3 := Lib.hid (B2.out.trans hb)
  clear hW hb hk
  have x0 : _ = some (Value.int .i64 t.fKind) := X3.out.cell 0
  have x1 : _ = some (Value.int .i64 t.fLong) := X3.out.cell 1
  have x2 : _ = some (Value.int .i64 t.fBase) := X3.out.cell 2
  have x3 : _ = some (Value.slice a t.fFields.length c) := X3.out.cell 3
  have x4 : _ = some (Value.string t.fOwner) := X3.out.cell 4
  have x5 : _ = some (Value.string t.fName) := X3.out.cell 5
  go_wp2_with fail
  refine (iPutMaybe wB.heap.size g _ _ _ _ _ H3.out (by first | omega | (simp only [ByteArray.size_append]; omega) | (simp only [ByteArray.size_append, byteB_size]; omega)) hno rfl).mono ?_
  clear x0 x1 x2 x3 x4 x5
  rintro e w4 ⟨rfl, hW, hb, hk⟩
  have H4 := Lib.hid hW
  have X4 := Lib.hid (hk.box X3.out (by omega) (by decide))
  have B4 := Lib.hid (B3.out.trans hb)
  clear hW hb hk
  have x0 : _ = some (Value.int .i64 t.fKind) := X4.out.cell 0
  have x1 : _ = some (Value.int .i64 t.fLong) := X4.out.cell 1
  have x2 : _ = some (Value.int .i64 t.fBase) := X4.out.cell 2
  have x3 : _ = some (Value.slice a t.fFields.length c) := X4.out.cell 3
  have x4 : _ = some (Value.string t.fOwner) := X4.out.cell 4
  have x5 : _ = some (Value.string t.fName) := X4.out.cell 5
  go_wp2_with fail
  refine (iPutMaybe wB.heap.size g _ _ _ _ _ H4.out (by first | omega | (simp only [ByteArray.size_append]; omega) | (simp only [ByteArray.size_append, byteB_size]; omega)) hnm rfl).mono ?_
  clear x0 x1 x2 x3 x4 x5
  rintro e w5 ⟨rfl, hW, hb, hk⟩
  have H5 := Lib.hid hW
  have X5 := Lib.hid (hk.box X4.out (by omega) (by decide))
  have B5 := Lib.hid (B4.out.trans hb)
  clear hW hb hk
  have x0 : _ = some (Value.int .i64 t.fKind) := X5.out.cell 0
  have x1 : _ = some (Value.int .i64 t.fLong) := X5.out.cell 1
  have x2 : _ = some (Value.int .i64 t.fBase) := X5.out.cell 2
  have x3 : _ = some (Value.slice a t.fFields.length c) := X5.out.cell 3
  have x4 : _ = some (Value.string t.fOwner) := X5.out.cell 4
  have x5 : _ = some (Value.string t.fName) := X5.out.cell 5
  go_wp2_with fail
  refine (iEachField wB g a c _ 6 _ _ _ H5.out B5.out (by first | omega | (simp only [ByteArray.size_append]; omega) | (simp only [ByteArray.size_append, byteB_size]; omega)) Hr.out Hn.out).mono ?_
  rintro e w6 ⟨rfl, hW, hb, hk⟩
  have HW := Lib.hid hW
  have BW := Lib.hid hb
  clear hW hb hk
  go_wp2_with fail
  go_end0
  exact ⟨rfl, Fin.out _ HW.out, BW.out⟩

end Go.Proofs.YtaccifjkeblhpaaGreat
