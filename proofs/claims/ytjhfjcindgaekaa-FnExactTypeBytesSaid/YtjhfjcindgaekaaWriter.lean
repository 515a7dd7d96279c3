
/-
  What is proved: a writer of files in memory: what it holds, and contracts of its put, whole, putByte, putNumber and putNameOrNone. No condition beside what each theorem states.
-/
import Derived.Test.YtjhfjcindgaekaaNumBytes
import Derived.Test.YtjhfjcindgaekaaName
import Derived.Test.YtjhfjcindgaekaaMem
import Derived.Test.YtjhfjcindgaekaaVar
import Derived.Lib.AppendStr
import Derived.BigQuiet
import Derived.Deep.QuietTactic
namespace Go.Proofs.Ytjhfjcindgaekaa
open Go.ChangeShapes Go.WideShapes Go.ChangeAt Go.RowKit
set_option maxRecDepth 100000

/-- Of what was there only the writer's own struct and rows of bytes have turned. -/
structure Kp (g : Nat) (w w' : World) : Prop where
  size : w.heap.size ≤ w'.heap.size
  block : ∀ b, b < w.heap.size → b ≠ g → (∀ cs fr, w.heap[b]? ≠ some (.cells cs 5 fr)) → w'.heap[b]? = w.heap[b]?
theorem Kp.refl (g : Nat) (w : World) : Kp g w w := ⟨Nat.le_refl _, fun _ _ _ _ => rfl⟩
theorem Kp.trans {g : Nat} {w w1 w2 : World} (h : Kp g w w1) (h' : Kp g w1 w2) : Kp g w w2 :=
  ⟨Nat.le_trans h.size h'.size, fun b h1 h2 h3 => by
    have e := h.block b h1 h2 h3
    exact (h'.block b (Nat.lt_of_lt_of_le h1 h.size) h2 (fun cs fr => by rw [e]; exact h3 cs fr)).trans e⟩
theorem Kp.box {g b : Nat} {t : TypeId} {w w' : World} {cs : Array Value} (h : Kp g w w') (hx : Box w b t cs) (hg : b ≠ g) (ht : t ≠ 5) : Box w' b t cs := by
  unfold Box at hx ⊢
  rw [h.block b (Box.lt hx) hg (fun cs' fr e => by rw [hx] at e; injection e with e; injection e with _ e2 _; exact ht e2)]
  exact hx
theorem Kp.of_below {g : Nat} {w w' : World} (h : Below w.heap.size w w') : Kp g w w' := ⟨h.size, fun b hb _ _ => h.block b hb⟩
theorem Kp.alloc {g : Nat} {w w' : World} (h : Kp g w w') (o : Obj) : Kp g w (w'.alloc o) := h.trans (Kp.of_below ((Below.refl _ _).alloc (Nat.le_refl _) o))
theorem Kp.set {g i : Nat} {w w' : World} (h : Kp g w w') (v : Value) : Kp g w (w'.setCell ⟨g, i, none⟩ v) :=
  h.trans ⟨by simp [World.setCell], fun b _ hg _ => by simp [World.setCell, Array.getElem?_modify, Ne.symm hg]⟩
theorem Kp.grown {g : Nat} {w w' w'' : World} {v : Value} {n : Nat} {B : Nat} {xs : List Value} (h : Kp g w w') (hg : w'.grownBy w'' v.ownBlock) (hown : w'.ownsRow B 5 1 v n xs) : Kp g w w'' :=
  h.trans ⟨hg.size, fun b hb _ hn => hg.block b hb (fun e => by
    rcases hown.2 with ⟨rfl, _⟩ | ⟨k, cap, cur, rfl, _, hk, _⟩
    · cases e
    · injection e with e
      subst e
      exact hn _ _ hk)⟩

theorem strCells_append (a b : ByteArray) : Lib.strCells (a ++ b) = Lib.strCells a ++ Lib.strCells b := by
  unfold Lib.strCells
  rw [← List.map_append]
  congr 1
theorem strCells_nums (s : ByteArray) : Lib.strCells s = (numsOf s).map (Value.int .u8) := by simp [Lib.strCells, numsOf]
theorem strOf_nums (s : ByteArray) : strOfNums (numsOf s) = s := by
  apply ByteArray.ext
  apply Array.ext'
  rw [strOfNums_data]
  unfold numsOf
  rw [List.map_map]
  conv => rhs; rw [← List.map_id s.data.toList]
  apply List.map_congr_left
  intro b _
  show UInt8.ofNat ((b.toNat : Int)).toNat = b
  rw [Int.toNat_natCast]
  exact UInt8.ofNat_toNat

theorem row_form {w : World} {B n size : Nat} {e : TypeId} {v : Value} {xs : List Value} (h : w.ownsRow B e size v n xs) : ∃ a c, v = .slice a n c := by
  rcases h.2 with ⟨rfl, h0⟩ | ⟨g, cap, _, rfl, _⟩
  · subst h0
    exact ⟨none, 0, rfl⟩
  · exact ⟨_, cap, rfl⟩
theorem own_set {w : World} {B n g i : Nat} {v u : Value} {t : TypeId} {cs : Array Value} {xs : List Value} (h : w.ownsRow B 5 1 v n xs) (hx : Box w g t cs) (ht : t ≠ 5) : (w.setCell ⟨g, i, none⟩ u).ownsRow B 5 1 v n xs := by
  refine ⟨h.1, h.2.imp id (fun ⟨k, cap, cur, h1, h2, h3, h4⟩ => ⟨k, cap, cur, h1, h2, ?_, h4⟩)⟩
  by_cases e : k = g
  · subst e
    unfold Box at hx
    rw [hx] at h3
    injection h3 with h3
    injection h3 with _ h3 _
    exact absurd h3 ht
  · simp [World.setCell, Array.getElem?_modify, Ne.symm e, h3]
/-- The writer at block g holds some bytes, and whether it is spoilt. -/
def Wr (B g : Nat) (w : World) (bs : ByteArray) (sp : Bool) : Prop := B ≤ g ∧ ∃ v, Box w g 51 #[v, .bool sp] ∧ w.ownsRow B 5 1 v bs.size (Lib.strCells bs)

set_option maxHeartbeats 4000000 in
theorem iPut (B g : Nat) (s : ByteArray) (ok : Bool) (w : World) (bs : ByteArray) (sp : Bool) (h : Wr B g w bs sp) (hs : bs.size + s.size ≤ 100000000) :
    Calls Try.prog 44 #[.pointer (some ⟨g, 0, none⟩), .string s, .bool ok] w fun e w' => e = .returned (.tuple #[]) ∧ Wr B g w' (bs ++ s) (sp || !ok) ∧ Below B w w' ∧ Kp g w w' := by
  obtain ⟨hB, v, hx, hown⟩ := h
  obtain ⟨i0, hi, hz0, hz1, hz2⟩ := info_parts info8
  have Hi := Lib.hid (And.intro hi (And.intro hz0 (And.intro hz1 hz2)))
  have X := Lib.hid hx
  have O := Lib.hid hown
  have hBw : B ≤ w.heap.size := Nat.le_trans hB (Nat.le_of_lt hx.lt)
  have c0 : _ = some v := hx.cell 0
  have c1 : _ = some (Value.bool sp) := hx.cell 1
  have f0 := hx.free 0
  have f1 := hx.free 1
  clear hi hz0 hz1 hz2 hx hown
  go_enter Try.func44, Try.ntmps44
  go_wp2_with (at_builtin; refine Lib.wpList_append_own_string _ rfl _ _ 49 9 rfl B 5 i0 Try.underlying49 Try.underlying9 ?q1 ?q2 ?q3 ?q4 _ bs.size (Lib.strCells bs) rfl ?q5 s rfl ?q7 ?q6 hBw ?_)
  case q1 => exact Hi.out.1
  case q2 => exact Hi.out.2.1
  case q3 => exact Hi.out.2.2.1
  case q4 => exact Hi.out.2.2.2
  case q5 => exact O.out
  case q6 => omega
  case q7 => unfold maxLen; omega
  intro v' w4 hown4 hg4 hlt4
  have B4 := Lib.hid ((Below.refl B w).grown hg4 hBw (fun k hk => (World.ownsRow.lt O.out k hk).1))
  have K4 := Lib.hid ((Kp.refl g w).grown hg4 O.out)
  have X4 := Lib.hid (((Kp.refl (g + 1) w).grown hg4 O.out).box X.out (by omega) (by decide))
  rw [← strCells_append, ← ByteArray.size_append] at hown4
  obtain ⟨a4, c4, rfl⟩ := row_form hown4
  have O4 := Lib.hid hown4
  clear hg4 hown4 hlt4 c0 c1 f0 f1
  have c0 : _ = some v := X4.out.cell 0
  have c1 : _ = some (Value.bool sp) := X4.out.cell 1
  have f0 := X4.out.free 0
  have f1 := X4.out.free 1
  have hB4 := B4.out.size
  cases sp <;> cases ok
  all_goals
    go_wp2_with fail
    go_end0
    refine ⟨rfl, ⟨hB, .slice a4 (bs ++ s).size c4, ?_, ?_⟩, (B4.out.setCell hB _).setCell hB _, (K4.out.set _).set _⟩
    · simp only [ByteArray.size_append]
      exact (X4.out.set 0 _).set 1 _
    · exact own_set (own_set O4.out X4.out (by decide)) (X4.out.set 0 _) (by decide)
theorem Wr.below {B g : Nat} {w w' : World} {bs : ByteArray} {sp : Bool} (h : Wr B g w bs sp) (hb : Below w.heap.size w w') : Wr B g w' bs sp := by
  obtain ⟨hB, v, hx, h1, h2⟩ := h
  exact ⟨hB, v, hx.below hb hx.lt, h1, h2.imp id (fun ⟨g, cap, cur, h1, h2, h3, h4⟩ => ⟨g, cap, cur, h1, h2, (hb.block g (Array.getElem?_eq_some_iff.1 h3).1).trans h3, h4⟩)⟩
theorem Wr.lt {B g : Nat} {w : World} {bs : ByteArray} {sp : Bool} (h : Wr B g w bs sp) : B ≤ g ∧ g < w.heap.size := by
  obtain ⟨hB, v, hx, _⟩ := h
  exact ⟨hB, hx.lt⟩
set_option maxHeartbeats 2000000 in
theorem iWhole (B g : Nat) (w : World) (bs : ByteArray) (sp : Bool) (h : Wr B g w bs sp) :
    Calls Try.prog 20 #[.pointer (some ⟨g, 0, none⟩)] w fun e w' => e = .returned (.tuple #[.string (if sp then ByteArray.empty else bs), .bool (!sp)]) ∧ Below w.heap.size w w' := by
  obtain ⟨hB, v, hx, hown⟩ := h
  have c0 : _ = some v := hx.cell 0
  have c1 : _ = some (Value.bool sp) := hx.cell 1
  rw [strCells_nums] at hown
  obtain ⟨a, c, rfl⟩ := row_form hown
  have kc := convOwn hown
  rw [strOf_nums] at kc
  clear hx hown
  cases sp
  all_goals
    go_enter Try.func20, Try.ntmps20
    go_wp2_with fail
    go_ret2
    exact ⟨rfl, Below.refl _ _⟩

/-- The byte of a number. -/
def byteB (n : Int) : ByteArray := strOfNums [n % 256]
set_option maxHeartbeats 4000000 in
theorem iPutByte (B g : Nat) (n lo hi : Int) (q : Bool) (w : World) (bs : ByteArray) (sp : Bool) (h : Wr B g w bs sp) (hs : bs.size + 1 ≤ 100000000) (hq : (decide (lo ≤ n) && decide (n ≤ hi)) = q) :
    Calls Try.prog 34 #[.pointer (some ⟨g, 0, none⟩), .int .i64 n, .int .i64 lo, .int .i64 hi] w fun e w' => e = .returned (.tuple #[]) ∧ Wr B g w' (bs ++ byteB n) (sp || !q) ∧ Below B w w' ∧ Kp g w w' := by
  have H := Lib.hid h
  have hl := h.lt
  have kc := conv1
  have hsz : (byteB n).size = 1 := by unfold byteB; rw [strOfNums_size]; rfl
  have HP := Lib.hid (fun W (hW : Wr B g W bs sp) => iPut B g (byteB n) q W bs sp hW (by omega))
  clear h hs
  cases h1 : decide (lo ≤ n) <;> cases h2 : decide (n ≤ hi)
  all_goals
    rw [h1, h2] at hq
    subst hq
    go_enter Try.func34, Try.ntmps34
    go_wp2_with fail
    refine (HP.out _ (H.out.below ((Below.refl _ _).alloc (Nat.le_refl _) _))).mono ?_
    rintro e w1 ⟨rfl, hW, hb, hk⟩
    have HW := Lib.hid hW
    have B1 := Lib.hid (((Below.refl B w).alloc (by omega) (.cells #[.int .u8 (n % 256)] 5)).trans hb)
    have K1 := Lib.hid ((Kp.of_below ((Below.refl w.heap.size w).alloc (Nat.le_refl _) (.cells #[.int .u8 (n % 256)] 5))).trans hk)
    clear hW hb hk
    go_wp2_with fail
    go_end0
    exact ⟨rfl, HW.out, B1.out, K1.out⟩

def wholeN (n : Int) : Prop := -1000000000 ≤ n ∧ n ≤ 1000000000
instance (n : Int) : Decidable (wholeN n) := by unfold wholeN; infer_instance
def numB (n : Int) : ByteArray := strOfNums (vb (foldZ n).toNat)
def numPart (n : Int) : ByteArray := if wholeN n then numB n else ByteArray.empty
theorem numB_size {n : Int} (h : wholeN n) : (numB n).size ≤ 5 := by
  have hb := foldZ_bd h.1 h.2
  have := vb_len 4 (foldZ n).toNat (by omega)
  unfold numB
  rw [strOfNums_size]
  omega
theorem numPart_size (n : Int) : (numPart n).size ≤ 5 := by
  unfold numPart
  split
  · rename_i h
    exact numB_size h
  · exact Nat.zero_le _
theorem iNum (n : Int) (w : World) : Calls Try.prog 46 #[.int .i64 n] w fun e w' => e = .returned (.tuple #[.string (numPart n), .bool (decide (wholeN n))]) ∧ Below w.heap.size w w' := by
  by_cases h : wholeN n
  · have hb := foldZ_bd h.1 h.2
    have := iNumBytes_in n (foldZ n).toNat w h.1 h.2 (by omega)
    unfold numPart
    rw [if_pos h, decide_eq_true h]
    exact this
  · have := iNumBytes_out n w (by unfold wholeN at h; omega)
    unfold numPart
    rw [if_neg h, decide_eq_false h]
    exact this
set_option maxHeartbeats 4000000 in
theorem iPutNumber (B g : Nat) (n lo hi : Int) (q : Bool) (w : World) (bs : ByteArray) (sp : Bool) (h : Wr B g w bs sp) (hs : bs.size + 5 ≤ 100000000) (hq : (decide (wholeN n) && decide (lo ≤ n) && decide (n ≤ hi)) = q) :
    Calls Try.prog 35 #[.pointer (some ⟨g, 0, none⟩), .int .i64 n, .int .i64 lo, .int .i64 hi] w fun e w' => e = .returned (.tuple #[]) ∧ Wr B g w' (bs ++ numPart n) (sp || !q) ∧ Below B w w' ∧ Kp g w w' := by
  have H := Lib.hid h
  have hl := h.lt
  have hsz := numPart_size n
  have HP := Lib.hid (fun q W (hW : Wr B g W bs sp) => iPut B g (numPart n) q W bs sp hW (by omega))
  have HN := Lib.hid (iNum n w)
  clear h hs
  generalize numPart n = part at *
  cases h0 : decide (wholeN n) <;> cases h1 : decide (lo ≤ n) <;> cases h2 : decide (n ≤ hi)
  all_goals
    rw [h0, h1, h2] at hq
    rw [h0] at HN
    subst hq
    go_enter Try.func35, Try.ntmps35
    go_wp2_with fail
    refine HN.out.mono ?_
    rintro e w1 ⟨rfl, hb1⟩
    have H1 := Lib.hid (H.out.below hb1)
    have B1 := Lib.hid (hb1.mono (show B ≤ _ by omega))
    have K1 := Lib.hid (Kp.of_below (g := g) hb1)
    clear hb1
    go_wp2_with fail
    refine (HP.out _ _ H1.out).mono ?_
    rintro e w2 ⟨rfl, hW, hb, hk⟩
    have HW := Lib.hid hW
    have B2 := Lib.hid (B1.out.trans hb)
    have K2 := Lib.hid (K1.out.trans hk)
    clear hW hb hk
    go_wp2_with fail
    go_end0
    exact ⟨rfl, HW.out, B2.out, K2.out⟩

open Classical in
noncomputable def namePart (s : ByteArray) : ByteArray := if nameP s then nbytes s else ByteArray.empty
theorem namePart_size (s : ByteArray) : (namePart s).size ≤ 11 := by
  unfold namePart
  split
  · rename_i h
    unfold nbytes
    have := h.2.1
    rw [ByteArray.size_append, strOfNums_size]
    simp
    omega
  · exact Nat.zero_le _
theorem iName (s : ByteArray) (w : World) (hs : s.size ≤ maxLen) : Calls Try.prog 45 #[.string s] w fun e w' => e = .returned (.tuple #[.string (namePart s), .bool (nameB s)]) ∧ Below w.heap.size w w' := by
  by_cases h : nameP s
  · unfold namePart
    rw [if_pos h, nameB_true h]
    exact iNameBytes_yes s w hs h
  · unfold namePart
    rw [if_neg h, nameB_false h]
    refine (iNameBytes_no s w hs (nameB_false h)).mono ?_
    rintro e w' ⟨rfl, rfl⟩
    exact ⟨rfl, Below.refl _ _⟩
def zeroB : ByteArray := { data := #[0] }
noncomputable def mayPart (s : ByteArray) : ByteArray := if s.toList.isEmpty then zeroB else namePart s
noncomputable def mayB (s : ByteArray) : Bool := s.toList.isEmpty || nameB s
theorem mayPart_size (s : ByteArray) : (mayPart s).size ≤ 11 := by
  unfold mayPart
  split
  · show 1 ≤ 11
    omega
  · exact namePart_size s
set_option maxHeartbeats 4000000 in
theorem iPutMaybe (B g : Nat) (s : ByteArray) (q : Bool) (w : World) (bs : ByteArray) (sp : Bool) (h : Wr B g w bs sp) (hs : bs.size + 11 ≤ 100000000) (hl : s.size ≤ maxLen) (hq : mayB s = q) :
    Calls Try.prog 36 #[.pointer (some ⟨g, 0, none⟩), .string s] w fun e w' => e = .returned (.tuple #[]) ∧ Wr B g w' (bs ++ mayPart s) (sp || !q) ∧ Below B w w' ∧ Kp g w w' := by
  have H := Lib.hid h
  have hlt := h.lt
  have hsz := namePart_size s
  have HP := Lib.hid (fun q W (hW : Wr B g W bs sp) => iPut B g (namePart s) q W bs sp hW (by omega))
  have HZ := Lib.hid (iPut B g zeroB true w bs sp h (by show bs.size + 1 ≤ _; omega))
  have HN := Lib.hid (iName s w hl)
  clear h hs
  cases he : s.toList.isEmpty
  · have e1 : mayPart s = namePart s := by unfold mayPart; rw [he]; rfl
    have e2 : q = nameB s := by rw [← hq]; unfold mayB; rw [he]; rfl
    rw [e1, e2]
    clear e1 e2 hq
    generalize namePart s = part at *
    generalize nameB s = r at *
    go_enter Try.func36, Try.ntmps36
    go_wp2_with fail
    refine HN.out.mono ?_
    rintro e w1 ⟨rfl, hb1⟩
    have H1 := Lib.hid (H.out.below hb1)
    have B1 := Lib.hid (hb1.mono (show B ≤ _ by omega))
    have K1 := Lib.hid (Kp.of_below (g := g) hb1)
    clear hb1
    go_wp2_with fail
    refine (HP.out _ _ H1.out).mono ?_
    rintro e w2 ⟨rfl, hW, hb, hk⟩
    have HW := Lib.hid hW
    have B2 := Lib.hid (B1.out.trans hb)
    have K2 := Lib.hid (K1.out.trans hk)
    clear hW hb hk
    go_wp2_with fail
    go_end0
    exact ⟨rfl, HW.out, B2.out, K2.out⟩
  · have e1 : mayPart s = zeroB := by unfold mayPart; rw [he]; rfl
    have e2 : q = true := by rw [← hq]; unfold mayB; rw [he]; rfl
    rw [e1, e2]
    clear e1 e2 hq
    go_enter Try.func36, Try.ntmps36
    go_wp2_with fail
    refine HZ.out.mono ?_
    rintro e w2 ⟨rfl, hW, hb, hk⟩
    have HW := Lib.hid hW
    have B2 := Lib.hid hb
    have K2 := Lib.hid hk
    clear hW hb hk
    go_wp2_with fail
    refine bodyPost_ret (results_none rfl _ _ _) rfl ?_
    exact ⟨rfl, HW.out, B2.out, K2.out⟩
end Go.Proofs.Ytjhfjcindgaekaa
