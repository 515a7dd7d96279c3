
/-
  What is proved: contracts of the model's draws of texts. No condition beside what each theorem states.
-/
import Derived.Test.YtnhdijkaakjdgaaCur
import Derived.Test.YtnhdijkaakjdgaaNumBytes
namespace Go.Proofs.Ytnhdijkaakjdgaa
open Go.ChangeShapes Go.WideShapes Go.ChangeAt Go.RowKit

/-- The slice at a reads as the texts l. -/
def Strs (w : World) (a : Option Addr) (l : List ByteArray) : Prop := ∀ i, i < l.length → ∃ b o, a = some ⟨b, o, none⟩ ∧ b < w.heap.size ∧ w.cell? ⟨b, o + i, none⟩ = some (.string (l.getD i ByteArray.empty))

theorem Strs.litAt (w : World) (g : Nat) (l : List ByteArray) (t : TypeId) (hg : g = w.heap.size) : Strs (w.alloc (.cells ((l.map Value.string).toArray) t)) (some ⟨g, 0, none⟩) l := fun i hi => by
  subst hg
  exact ⟨w.heap.size, 0, rfl, by simp, by rw [Nat.zero_add, (Box.new w t _).cell]; simp [hi]⟩

/-- What a draw of a text answers, and what it leaves. -/
def DrawnS (R : ByteArray → Prop) (g k : Nat) (w : World) (e : Ending) (w' : World) : Prop := ∃ s : ByteArray, R s ∧ e = .returned (.string s) ∧ Cur w' g k ∧ Only g w w'

set_option maxHeartbeats 1000000 in
theorem cOf (g k : Nat) (a : Option Addr) (c : Nat) (l : List ByteArray) (w : World) (hk : k ≤ 999990) (hl : 1 ≤ l.length) (hl2 : l.length ≤ 1000) (hc : Cur w g k) (hr : Strs w a l) (hne : ∀ b o, a = some ⟨b, o, none⟩ → b ≠ g) :
    Calls Try.prog 43 #[.pointer (some ⟨g, 0, none⟩), .slice a l.length c] w (DrawnS (fun n => n ∈ l) g (k + 2) w) := by
  have Hc := Lib.hid hc
  have Hr := Lib.hid hr
  have Hne := Lib.hid hne
  clear hc hr hne
  go_enter Try.func43, Try.ntmps43
  go_wp2_with fail
  refine (cPick g k (l.length : Int) _ hk (by omega) (by omega) Hc.out).mono ?_
  rintro e w1 ⟨x, ⟨hx0, hx1⟩, rfl, hc1, ho1⟩
  obtain ⟨i, rfl⟩ := Int.eq_ofNat_of_zero_le hx0
  have hi : i < l.length := by omega
  obtain ⟨b, o, rfl, hb1, hc2⟩ := Hr.out i hi
  have e1 : w1.cell? ⟨b, o + i, none⟩ = some (.string (l.getD i ByteArray.empty)) := (World.cell?_of_block (a := ⟨b, o + i, none⟩) (ho1.block b hb1 (fun e => by injection e with e; exact Hne.out b o rfl e))).trans hc2
  have Hm : Hid (l.getD i ByteArray.empty ∈ l) := by show _ ∈ _; simp [List.getD, hi]
  have Hc1 := Lib.hid hc1
  have Ho1 := Lib.hid ho1
  clear hc1 ho1 hc2 Hr Hne
  generalize l.getD i ByteArray.empty = y at *
  go_wp2_with fail
  go_ret
  exact ⟨y, Hm.out, rfl, Hc1.out, Ho1.out⟩

/-- of, from a literal row of short texts that has just been made. -/
theorem cOfLit (g k : Nat) (l : List ByteArray) (M b : Nat) (w : World) (hk : k ≤ 999990) (hl : 1 ≤ l.length) (hl2 : l.length ≤ 1000) (hc : Cur w g k) (hM : ∀ s ∈ l, s.size ≤ M) (hb : b = w.heap.size) :
    Calls Try.prog 43 #[.pointer (some ⟨g, 0, none⟩), .slice (some ⟨b, 0, none⟩) l.length l.length] (w.alloc (.cells ((l.map Value.string).toArray) 9)) (DrawnS (fun s => s.size ≤ M) g (k + 2) w) := by
  have hg := hc.lt
  refine (cOf g k _ _ l _ hk hl hl2 (hc.below ((Below.refl w.heap.size w).alloc (Nat.le_refl _) _) hg) (Strs.litAt w b l _ hb) (fun b' o e => by injection e with e; injection e with e; omega)).mono ?_
  rintro e w1 ⟨s, hs, rfl, hc1, ho1⟩
  exact ⟨s, hM s hs, rfl, hc1, ((Only.refl g w).alloc _).trans ho1⟩

/-- What a draw of a text answers. -/
def StrDrawn (M : Nat) (w : World) (e : Ending) (w' : World) : Prop := ∃ s : ByteArray, s.size ≤ M ∧ e = .returned (.string s) ∧ Below w.heap.size w w'

theorem cutHead (s : ByteArray) (i : Nat) (hi : i ≤ s.size) (W : World) : (Instr.slice 9 (.string s) none (some (.int .i64 (i : Int))) none).run Try.prog W = .ok (.string (s.extract 0 i)) W := by
  have h := run_slice_string_h (P := Try.prog) W 9 s Try.underlying9 .i64 (i : Int) (by omega) (by omega)
  rw [h, show ((i : Int)).toNat = i by omega]

theorem cutTail (s : ByteArray) (i : Nat) (n : Int) (hn : n = i) (hi : i ≤ s.size) (W : World) : (Instr.slice 9 (.string s) (some (.int .i64 n)) none none).run Try.prog W = .ok (.string (s.extract i s.size)) W := by
  have h := run_slice_string_l (P := Try.prog) W 9 s Try.underlying9 .i64 n (by omega) (by omega)
  rw [h, show n.toNat = i by omega]

/-- What a draw of a text and a place answers. -/
def PlaceDrawn (w : World) (e : Ending) (w' : World) : Prop := ∃ (s : ByteArray) (n : Int), s.size ≤ 100 ∧ e = .returned (.tuple #[.string s, .int .i64 n]) ∧ Below w.heap.size w w'

theorem nbytes_size (s : ByteArray) : (nbytes s).size = s.size + 1 := by unfold nbytes; rw [ByteArray.size_append, strOfNums_size]; simp; omega

end Go.Proofs.Ytnhdijkaakjdgaa
