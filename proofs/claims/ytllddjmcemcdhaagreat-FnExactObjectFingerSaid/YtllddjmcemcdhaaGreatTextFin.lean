
/-
  What is proved: contracts of the model's l8Text and TextFinger and of the program's mixedBytes, TextFinger, textSum and mixed. No condition beside what each theorem states.
-/
import Derived.Test.YtllddjmcemcdhaaGreatNumBytes
import Derived.Test.YtllddjmcemcdhaaGreatMixAll
import Derived.Test.YtllddjmcemcdhaaGreatIntRow
namespace Go.Proofs.YtllddjmcemcdhaaGreat
open Go.ChangeShapes Go.WideShapes Go.ChangeAt Go.RowKit
set_option maxRecDepth 100000

/-- The finger of a text. -/
def textZ (s : ByteArray) : Int := mixTo (numsOf s) (numsOf s).length
/-- All of them, mixed. -/
def mixL (l : List Int) : Int := mixTo l l.length

set_option maxHeartbeats 4000000 in
theorem sl8Text (s : ByteArray) (w : World) (hs : s.size ≤ 200) : Calls Tryz.prog 44 #[.string s] w fun e w' => e = .returned (.int .i64 (textZ s)) ∧ Below w.heap.size w w' := by
  have Hz := Lib.hid (show textZ s = mixTo (numsOf s) (numsOf s).length from rfl)
  have Hlen := Lib.hid (numsOf_len s)
  have Hat := Lib.hid (numsOf_next s)
  have Hall := Lib.hid (numsOf_take s)
  generalize textZ s = z at *
  generalize numsOf s = l at *
  go_enter Tryz.func44, Tryz.ntmps44
  go_wp2_with fail
  go_loopw [3, 4] (fun v i wr => ∃ k : Nat, i = .int .i64 k ∧ k ≤ s.size ∧ OwnInts wr w.heap.size v (l.take k) ∧ Below w.heap.size w wr) (fun _ i _ => s.size - (intOf i).toNat)
  case atStart => exact ⟨0, rfl, by omega, OwnInts.nil, Below.refl _ _⟩
  case round =>
    obtain ⟨k, rfl, hk, hown, hbel⟩ := hrel
    have Hown := Lib.hid hown
    have Hbel := Lib.hid hbel
    have hsz := hbel.size
    clear hown hbel
    by_cases hlt : k < s.size
    · have Htk := Lib.hid (Hat.out k hlt)
      have i1 : (0 : Int) ≤ (k : Int) := by omega
      have i2 : (k : Int) < (s.size : Int) := by omega
      have hb := s[k].toNat_lt
      go_wp2_with (at_builtin; refine wpList_pushInt rfl _ _ rfl w.heap.size _ _ (l.take k) rfl Hown.out _ _ rfl (by simp) ?c1 ?c2 ?_)
      case c1 => rw [List.length_take]; omega
      case c2 => exact hsz
      intro v' w1 hown1 hg1 hlt1
      have Hb1 := Lib.hid (Hbel.out.grown hg1 hsz (fun k hk => (hlt1 k hk).1))
      have Ho1 := Lib.hid (Htk.out ▸ hown1)
      clear hown1 hg1 hlt1
      go_wp2_with fail
      exact ⟨⟨k + 1, by congr 1, by omega, Ho1.out, Hb1.out⟩, by simp [intOf]; omega⟩
    · have Ho := Lib.hid ((Hall.out k hlt) ▸ Hown.out)
      obtain ⟨a, c, rfl, hc, hn⟩ := Ho.out.nums
      have Hn := Lib.hid hn
      have hll : l.length ≤ 200 := by rw [Hlen.out]; exact hs
      clear hn Hown
      go_wp2_with fail
      refine (sl1MixAll a c l _ hll Hn.out.ints).mono ?_
      rintro e w' ⟨rfl, rfl⟩
      go_wp2_with fail
      go_ret
      exact ⟨by rw [Hz.out]; rfl, Hbel.out⟩

/-- The bytes of a text lie at an address. -/
def Byts (w : World) (a : Option Addr) (s : ByteArray) : Prop := ∀ i (h : i < s.size), ∃ b o, a = some ⟨b, o, none⟩ ∧ b < w.heap.size ∧ w.cell? ⟨b, o + i, none⟩ = some (.int .u8 (s[i].toNat : Int))
theorem Byts.new (W : World) (s : ByteArray) (c : Nat) (m : Nat × Nat) : Byts (W.alloc (.cells (bytesRow s c) 5 m)) (some ⟨W.heap.size, 0, none⟩) s := fun i hi => by
  refine ⟨W.heap.size, 0, rfl, by simp, ?_⟩
  have hi' : i < s.data.size := hi
  rw [Nat.zero_add, World.cell?_alloc_mark]
  have hj2 : i < (s.data.map (fun b => Value.int .u8 b.toNat)).size := by simpa using hi'
  rw [bytesRow, Array.getElem?_append_left hj2, Array.getElem?_map, Array.getElem?_eq_getElem hi']
  rfl

set_option maxHeartbeats 4000000 in
theorem iMixedBytes (s : ByteArray) (a : Option Addr) (c : Nat) (w : World) (hs : s.size ≤ 200) (hr : Byts w a s) : Calls Tryz.prog 107 #[.slice a s.size c] w fun e w' => e = .returned (.tuple #[.int .i64 (textZ s), .bool true]) ∧ Below w.heap.size w w' := by
  have Hr := Lib.hid hr
  have Hz := Lib.hid (show textZ s = mixTo (numsOf s) (numsOf s).length from rfl)
  have Hlen := Lib.hid (numsOf_len s)
  have Hat := Lib.hid (numsOf_next s)
  have Hall := Lib.hid (numsOf_take s)
  clear hr
  generalize textZ s = z at *
  generalize numsOf s = l at *
  go_enter Tryz.func107, Tryz.ntmps107
  go_wp2_with fail
  go_loopw [4, 9] (fun v i wr => ∃ k : Nat, i = .int .i64 k ∧ k ≤ s.size ∧ OwnInts wr w.heap.size v (l.take k) ∧ Below w.heap.size w wr) (fun _ i _ => s.size - (intOf i).toNat)
  case atStart => exact ⟨0, rfl, by omega, OwnInts.nil, Below.refl _ _⟩
  case round =>
    obtain ⟨k, rfl, hk, hown, hbel⟩ := hrel
    have Hown := Lib.hid hown
    have Hbel := Lib.hid hbel
    have hsz := hbel.size
    clear hown
    by_cases hlt : k < s.size
    · obtain ⟨b, o, rfl, hb1, hc1⟩ := Hr.out k hlt
      have e1 := (hbel.cell (p := ⟨b, o + k, none⟩) hb1).trans hc1
      have Htk := Lib.hid (Hat.out k hlt)
      have i1 : (0 : Int) ≤ (k : Int) := by omega
      have i2 : (k : Int) < (s.size : Int) := by omega
      have hb := s[k].toNat_lt
      clear hbel hc1
      generalize s[k].toNat = x at *
      go_wp2_with (at_builtin; refine wpList_pushInt rfl _ _ rfl w.heap.size _ _ (l.take k) rfl Hown.out _ _ rfl (by simp) ?c1 ?c2 ?_)
      case c1 => rw [List.length_take]; omega
      case c2 => exact hsz
      intro v' w1 hown1 hg1 hlt1
      have Hb1 := Lib.hid (Hbel.out.grown hg1 hsz (fun k hk => (hlt1 k hk).1))
      have Ho1 := Lib.hid (Htk.out ▸ hown1)
      clear hown1 hg1 hlt1
      go_wp2_with fail
      exact ⟨⟨k + 1, by congr 1, by omega, Ho1.out, Hb1.out⟩, by simp [intOf]; omega⟩
    · have Ho := Lib.hid ((Hall.out k hlt) ▸ Hown.out)
      obtain ⟨a, c, rfl, hc, hn⟩ := Ho.out.nums
      have Hn := Lib.hid hn
      have hll : l.length ≤ 200 := by rw [Hlen.out]; exact hs
      clear hn Hown hbel
      go_wp2_with fail
      refine (iMixAll_in a c l _ hll Hn.out.ints).mono ?_
      rintro e w' ⟨rfl, rfl⟩
      go_wp2_with fail
      go_ret2
      exact ⟨by rw [Hz.out]; rfl, Hbel.out⟩

theorem iTextFinger_in (s : ByteArray) (w : World) (hs : s.size ≤ 200) : Calls Tryz.prog 79 #[.string s] w fun e w' => e = .returned (.tuple #[.int .i64 (textZ s), .bool true]) ∧ Below w.heap.size w w' := by
  have kb := bytesOf
  have HM := Lib.hid (fun a c w => iMixedBytes s a c w hs)
  have HB := Lib.hid (Byts.new w.drew s (grownCap w s.size 0 5) ((bytesRow s (grownCap w s.size 0 5)).size, (bytesRow s (grownCap w s.size 0 5)).size + 1))
  have HW := Lib.hid ((belowN (Below.refl w.heap.size w) 1).alloc (Nat.le_refl _) (.cells (bytesRow s (grownCap w s.size 0 5)) 5 ((bytesRow s (grownCap w s.size 0 5)).size, (bytesRow s (grownCap w s.size 0 5)).size + 1)))
  generalize textZ s = z at *
  go_enter Tryz.func79, Tryz.ntmps79
  go_wp2_with fail
  refine (HM.out _ _ _ HB.out).mono ?_
  rintro e w1 ⟨rfl, hb⟩
  have B1 := Lib.hid (HW.out.trans (hb.mono HW.out.size))
  clear hb
  go_wp2_with fail
  go_ret2
  exact ⟨rfl, B1.out⟩
theorem iTextFinger_out (s : ByteArray) (w : World) (hs : 200 < s.size) (hl : s.size ≤ 1048576) : Calls Tryz.prog 79 #[.string s] w fun e w' => e = .returned (.tuple #[.int .i64 0, .bool false]) ∧ Below w.heap.size w w' := by
  go_enter Tryz.func79, Tryz.ntmps79
  go_wp2_with fail
  go_ret2
  exact ⟨rfl, Below.refl _ _⟩
theorem iTextSum (s : ByteArray) (w : World) (hs : s.size ≤ 200) : Calls Tryz.prog 55 #[.string s] w fun e w' => e = .returned (.int .i64 (textZ s)) ∧ Below w.heap.size w w' := by
  have HM := Lib.hid (fun w => iTextFinger_in s w hs)
  generalize textZ s = z at *
  go_enter Tryz.func55, Tryz.ntmps55
  go_wp2_with fail
  refine (HM.out _).mono ?_
  rintro e w1 ⟨rfl, hb⟩
  go_wp2_with fail
  go_ret
  exact ⟨rfl, hb⟩
theorem iMixed (a : Option Addr) (c : Nat) (l : List Int) (w : World) (hl : l.length ≤ 200) (hr : Ints w a l) :
    Calls Tryz.prog 58 #[.slice a l.length c] w fun e w' => e = .returned (.int .i64 (mixL l)) ∧ w = w' := by
  have HM := Lib.hid (iMixAll_in a c l w hl hr)
  have Hz := Lib.hid (show mixL l = mixTo l l.length from rfl)
  clear hr
  go_enter Tryz.func58, Tryz.ntmps58
  go_wp2_with fail
  refine HM.out.mono ?_
  rintro e w' ⟨rfl, rfl⟩
  go_wp2_with fail
  go_ret
  exact ⟨by rw [Hz.out]; rfl, rfl⟩
theorem sMixed (a : Option Addr) (c : Nat) (l : List Int) (w : World) (hl : l.length ≤ 200) (hr : Ints w a l) :
    Calls Tryz.prog 45 #[.slice a l.length c] w fun e w' => e = .returned (.int .i64 (mixL l)) ∧ w = w' := sl1MixAll a c l w hl hr

end Go.Proofs.YtllddjmcemcdhaaGreat
