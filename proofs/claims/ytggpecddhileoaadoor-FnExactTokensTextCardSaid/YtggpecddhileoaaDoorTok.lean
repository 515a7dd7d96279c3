
/-
  What is proved: contracts of tokenOf of the program. No condition beside what each theorem states.
-/
import Derived.Test.YtggpecddhileoaaDoorNumOf2
import Derived.Test.YtggpecddhileoaaDoorIsWord
namespace Go.Proofs.YtggpecddhileoaaDoor
open Go.ChangeShapes Go.WideShapes Go.ChangeAt Go.RowKit

/-- A token as data. -/
structure Tok where
  kind : Int
  text : ByteArray
  value : Int
  place : Int
abbrev Tok.cells (t : Tok) : Array Value := #[.int .i64 t.kind, .string t.text, .int .i64 t.value, .int .i64 t.place]

def signB (c : Int) : Bool := c == 59 || c == 44 || c == 46 || c == 58 || c == 61 || c == 42 || c == 45 || c == 43 || c == 40 || c == 41
def signP (s : ByteArray) : Prop := s.size = 1 ∧ signB (byteAt s 0) = true

open Classical in
/-- Kind and Value of the token of which a text is all that stands there. -/
noncomputable def tokF (s : ByteArray) : Option (Int × Int) :=
  if numOk s then some (3, (numVal s : Int)) else if isWP s then some (2, 0) else if nameP s then some (1, 0) else if signP s then some (4, 0) else none

theorem tokF_num {s : ByteArray} (h : numOk s) : tokF s = some (3, (numVal s : Int)) := by unfold tokF; rw [if_pos h]
theorem tokF_word {s : ByteArray} (h1 : ¬ numOk s) (h : isWP s) : tokF s = some (2, 0) := by unfold tokF; rw [if_neg h1, if_pos h]
theorem tokF_name {s : ByteArray} (h1 : ¬ numOk s) (h2 : ¬ isWP s) (h : nameP s) : tokF s = some (1, 0) := by unfold tokF; rw [if_neg h1, if_neg h2, if_pos h]
theorem tokF_sign {s : ByteArray} (h1 : ¬ numOk s) (h2 : ¬ isWP s) (h3 : ¬ nameP s) (h : signP s) : tokF s = some (4, 0) := by unfold tokF; rw [if_neg h1, if_neg h2, if_neg h3, if_pos h]
theorem tokF_none {s : ByteArray} (h1 : ¬ numOk s) (h2 : ¬ isWP s) (h3 : ¬ nameP s) (h : ¬ signP s) : tokF s = none := by unfold tokF; rw [if_neg h1, if_neg h2, if_neg h3, if_neg h]

def TokAns (s : ByteArray) (e : Ending) : Prop :=
  (∃ k v, tokF s = some (k, v) ∧ e = .returned (.tuple #[.agg #[.int .i64 k, .string s, .int .i64 v, .int .i64 0], .bool true])) ∨
  (tokF s = none ∧ e = .returned (.tuple #[.agg #[.int .i64 0, .string ByteArray.empty, .int .i64 0, .int .i64 0], .bool false]))

set_option maxRecDepth 100000 in
theorem sign_index : ∀ c : Fin 256, decide (0 ≤ Lib.indexByte [59, 44, 46, 58, 61, 42, 45, 43, 40, 41] (UInt8.ofNat c.val)) = signB c.val := by decide

theorem one_byte {s : ByteArray} (h : s.size = 1) : ∃ c : UInt8, s = ⟨#[c]⟩ ∧ byteAt s 0 = (c.toNat : Int) := by
  obtain ⟨⟨l⟩⟩ := s
  have hl : l.length = 1 := h
  match l, hl with
  | [c], _ => exact ⟨c, rfl, rfl⟩

theorem tok_end {w w1 : World} {g : Nat} {o : Obj} {t : TypeId} {a b c d : Value} (hg : w.heap.size = g) (hb : Below (w.alloc o).heap.size (w.alloc o) w1) (hB : Box w1 g t #[a, b, c, d]) (x0 x1 x2 x3 : Value) :
    Box ((((w1.setCell ⟨g, 0, none⟩ x0).setCell ⟨g, 1, none⟩ x1).setCell ⟨g, 2, none⟩ x2).setCell ⟨g, 3, none⟩ x3) g t #[x0, x1, x2, x3] ∧
    Below w.heap.size w ((((w1.setCell ⟨g, 0, none⟩ x0).setCell ⟨g, 1, none⟩ x1).setCell ⟨g, 2, none⟩ x2).setCell ⟨g, 3, none⟩ x3) := by
  subst hg
  refine ⟨(((hB.set 0 x0).set 1 x1).set 2 x2).set 3 x3, ?_⟩
  have ho : Only w.heap.size (w.alloc o) w1 := Only.ofBelow hb
  have ho2 := (((ho.set 0 x0).set 1 x1).set 2 x2).set 3 x3
  exact ((Below.refl w.heap.size w).alloc (Nat.le_refl _) o).trans (ho2.below (Nat.le_refl _) (by simp))

theorem results_tok {fn : Func} {p u : Tmp} (h : fn.results = #[.cell p 33, .tmp u]) (tmps : Array Value) (w : World) (g : Nat) (cs : Array Value) (hp : tmps.getD p undef = .pointer (some ⟨g, 0, none⟩)) (hb : Box w g 33 cs) (hc : cs.size = 4) :
    (results fn tmps).run Tryd.prog w = .ok (.tuple #[.agg cs, tmps.getD u undef]) w := by
  have hl : (loadVar 33 ⟨g, 0, none⟩).run Tryd.prog w = .ok (.agg cs) w := run_loadVar_row w g _ _ cs (0, 0) _ hb Tryd.underlying33 rfl (by rw [hc]; kernel_rfl)
  rw [results_cell_tmp h, hp]
  simp [asAddr, hl]

set_option maxRecDepth 100000 in
set_option maxHeartbeats 2000000 in
theorem iTokenOf (s : ByteArray) (w : World) (hs : s.size ≤ maxLen) (hk : Kept w) : Calls Tryd.prog 32 #[.string s] w fun e w' => TokAns s e ∧ Below w.heap.size w w' := by
  have HK := Lib.hid hk
  clear hk
  by_cases h1 : numOk s
  · have Ht := Lib.hid (tokF_num h1)
    go_enter Tryd.func32, Tryd.ntmps32
    go_wp2_with fail
    refine (iNumberOf s _ hs).mono ?_
    rintro e w1 ⟨⟨_, rfl⟩ | ⟨hn, _⟩, hb⟩
    · have hB := (Box.new w 33 #[.int .i64 0, .string ByteArray.empty, .int .i64 0, .int .i64 0]).below hb (by simp)
      have HK1 := Lib.hid ((HK.out.below ((Below.refl w.heap.size w).alloc (Nat.le_refl _) _)).below hb)
      have c0 := hB.cell 0
      have c1 := hB.cell 1
      have c2 := hB.cell 2
      have c3 := hB.cell 3
      have f0 := hB.free 0
      have f1 := hB.free 1
      have f2 := hB.free 2
      have f3 := hB.free 3
      simp at c0 c1 c2 c3
      have HB := Lib.hid hB
      have Hb := Lib.hid hb
      clear hB hb
      generalize hg : w.heap.size = g at *
      go_wp2_with fail
      obtain ⟨hb2, hb3⟩ := tok_end hg Hb.out HB.out (.int .i64 3) (.string s) (.int .i64 (numVal s)) (.int .i64 0)
      refine bodyPost_ret (results_tok rfl _ _ g _ rfl hb2 rfl) rfl ?_
      exact ⟨Or.inl ⟨_, _, Ht.out, rfl⟩, hb3⟩
    · exact absurd h1 hn
  by_cases h2 : isWP s
  · have Ht := Lib.hid (tokF_word h1 h2)
    have q2 := isWB_true h2
    go_enter Tryd.func32, Tryd.ntmps32
    go_wp2_with fail
    refine (iNumberOf s _ hs).mono ?_
    rintro e w1 ⟨⟨hn, _⟩ | ⟨_, rfl⟩, hb⟩
    · exact absurd hn h1
    · have hB := (Box.new w 33 #[.int .i64 0, .string ByteArray.empty, .int .i64 0, .int .i64 0]).below hb (by simp)
      have HK1 := Lib.hid ((HK.out.below ((Below.refl w.heap.size w).alloc (Nat.le_refl _) _)).below hb)
      have c0 := hB.cell 0
      have c1 := hB.cell 1
      have c2 := hB.cell 2
      have c3 := hB.cell 3
      have f0 := hB.free 0
      have f1 := hB.free 1
      have f2 := hB.free 2
      have f3 := hB.free 3
      simp at c0 c1 c2 c3
      have HB := Lib.hid hB
      have Hb := Lib.hid hb
      clear hB hb
      generalize hg : w.heap.size = g at *
      go_wp2_with (first | (go_at_call 15; refine (iIsWord _ _ HK1.out).mono ?_; rintro e w' ⟨rfl, rfl⟩) | (go_at_call 52; refine (iGoodName _ _ hs).mono ?_; rintro e w' ⟨rfl, rfl⟩) | (go_at_call 53; refine (Tryd.strings_Contains_one _ _ _).mono ?_; rintro e w' ⟨rfl, rfl⟩))
      obtain ⟨hb2, hb3⟩ := tok_end hg Hb.out HB.out (.int .i64 2) (.string s) (.int .i64 0) (.int .i64 0)
      refine bodyPost_ret (results_tok rfl _ _ g _ rfl hb2 rfl) rfl ?_
      exact ⟨Or.inl ⟨_, _, Ht.out, rfl⟩, hb3⟩
  have q2 := isWB_false h2
  by_cases h3 : nameP s
  · have Ht := Lib.hid (tokF_name h1 h2 h3)
    have q3 := nameB_true h3
    go_enter Tryd.func32, Tryd.ntmps32
    go_wp2_with fail
    refine (iNumberOf s _ hs).mono ?_
    rintro e w1 ⟨⟨hn, _⟩ | ⟨_, rfl⟩, hb⟩
    · exact absurd hn h1
    · have hB := (Box.new w 33 #[.int .i64 0, .string ByteArray.empty, .int .i64 0, .int .i64 0]).below hb (by simp)
      have HK1 := Lib.hid ((HK.out.below ((Below.refl w.heap.size w).alloc (Nat.le_refl _) _)).below hb)
      have c0 := hB.cell 0
      have c1 := hB.cell 1
      have c2 := hB.cell 2
      have c3 := hB.cell 3
      have f0 := hB.free 0
      have f1 := hB.free 1
      have f2 := hB.free 2
      have f3 := hB.free 3
      simp at c0 c1 c2 c3
      have HB := Lib.hid hB
      have Hb := Lib.hid hb
      clear hB hb
      generalize hg : w.heap.size = g at *
      go_wp2_with (first | (go_at_call 15; refine (iIsWord _ _ HK1.out).mono ?_; rintro e w' ⟨rfl, rfl⟩) | (go_at_call 52; refine (iGoodName _ _ hs).mono ?_; rintro e w' ⟨rfl, rfl⟩) | (go_at_call 53; refine (Tryd.strings_Contains_one _ _ _).mono ?_; rintro e w' ⟨rfl, rfl⟩))
      obtain ⟨hb2, hb3⟩ := tok_end hg Hb.out HB.out (.int .i64 1) (.string s) (.int .i64 0) (.int .i64 0)
      refine bodyPost_ret (results_tok rfl _ _ g _ rfl hb2 rfl) rfl ?_
      exact ⟨Or.inl ⟨_, _, Ht.out, rfl⟩, hb3⟩
  have q3 := nameB_false h3
  by_cases h4 : s.size = 1
  · obtain ⟨c, hc, hc2⟩ := one_byte h4
    have q5 := sign_index ⟨c.toNat, c.toNat_lt⟩
    have q6 : UInt8.ofNat c.toNat = c := by simp
    simp only [q6] at q5
    by_cases h5 : signP s
    · have Ht := Lib.hid (tokF_sign h1 h2 h3 h5)
      have q7 : signB (c.toNat : Int) = true := by rw [← hc2]; exact h5.2
      rw [q7] at q5
      have Hc := Lib.hid hc
      clear h5 hc2 q7 q6
      subst hc
      go_enter Tryd.func32, Tryd.ntmps32
      go_wp2_with fail
      refine (iNumberOf _ _ hs).mono ?_
      rintro e w1 ⟨⟨hn, _⟩ | ⟨_, rfl⟩, hb⟩
      · exact absurd hn h1
      · have hB := (Box.new w 33 #[.int .i64 0, .string ByteArray.empty, .int .i64 0, .int .i64 0]).below hb (by simp)
        have HK1 := Lib.hid ((HK.out.below ((Below.refl w.heap.size w).alloc (Nat.le_refl _) _)).below hb)
        have c0 := hB.cell 0
        have c1 := hB.cell 1
        have c2 := hB.cell 2
        have c3 := hB.cell 3
        have f0 := hB.free 0
        have f1 := hB.free 1
        have f2 := hB.free 2
        have f3 := hB.free 3
        simp at c0 c1 c2 c3
        have HB := Lib.hid hB
        have Hb := Lib.hid hb
        clear hB hb
        generalize hg : w.heap.size = g at *
        go_wp2_with (first | (go_at_call 15; refine (iIsWord _ _ HK1.out).mono ?_; rintro e w' ⟨rfl, rfl⟩) | (go_at_call 52; refine (iGoodName _ _ hs).mono ?_; rintro e w' ⟨rfl, rfl⟩) | (go_at_call 53; refine (Tryd.strings_Contains_one _ _ _).mono ?_; rintro e w' ⟨rfl, rfl⟩))
        obtain ⟨hb2, hb3⟩ := tok_end hg Hb.out HB.out (.int .i64 4) (.string ⟨#[c]⟩) (.int .i64 0) (.int .i64 0)
        refine bodyPost_ret (results_tok rfl _ _ g _ rfl hb2 rfl) rfl ?_
        exact ⟨Or.inl ⟨_, _, Ht.out, rfl⟩, hb3⟩
    · have Ht := Lib.hid (tokF_none h1 h2 h3 h5)
      have q7 : signB (c.toNat : Int) = false := by
        rw [← hc2]
        cases hh : signB (byteAt s 0)
        · rfl
        · exact absurd ⟨h4, hh⟩ h5
      rw [q7] at q5
      have Hc := Lib.hid hc
      clear h5 hc2 q7 q6
      subst hc
      go_enter Tryd.func32, Tryd.ntmps32
      go_wp2_with fail
      refine (iNumberOf _ _ hs).mono ?_
      rintro e w1 ⟨⟨hn, _⟩ | ⟨_, rfl⟩, hb⟩
      · exact absurd hn h1
      · have hB := (Box.new w 33 #[.int .i64 0, .string ByteArray.empty, .int .i64 0, .int .i64 0]).below hb (by simp)
        have HK1 := Lib.hid ((HK.out.below ((Below.refl w.heap.size w).alloc (Nat.le_refl _) _)).below hb)
        have c0 := hB.cell 0
        have c1 := hB.cell 1
        have c2 := hB.cell 2
        have c3 := hB.cell 3
        have f0 := hB.free 0
        have f1 := hB.free 1
        have f2 := hB.free 2
        have f3 := hB.free 3
        simp at c0 c1 c2 c3
        have HB := Lib.hid hB
        have Hb := Lib.hid hb
        clear hB hb
        generalize hg : w.heap.size = g at *
        go_wp2_with (first | (go_at_call 15; refine (iIsWord _ _ HK1.out).mono ?_; rintro e w' ⟨rfl, rfl⟩) | (go_at_call 52; refine (iGoodName _ _ hs).mono ?_; rintro e w' ⟨rfl, rfl⟩) | (go_at_call 53; refine (Tryd.strings_Contains_one _ _ _).mono ?_; rintro e w' ⟨rfl, rfl⟩))
        obtain ⟨hb2, hb3⟩ := tok_end hg Hb.out HB.out (.int .i64 0) (.string ByteArray.empty) (.int .i64 0) (.int .i64 0)
        refine bodyPost_ret (results_tok rfl _ _ g _ rfl hb2 rfl) rfl ?_
        exact ⟨Or.inr ⟨Ht.out, rfl⟩, hb3⟩
  · have Ht := Lib.hid (tokF_none h1 h2 h3 (fun h => h4 h.1))
    have d1 : ((s.size : Int) == 1) = false := beq_eq_false_iff_ne.2 (by omega)
    go_enter Tryd.func32, Tryd.ntmps32
    go_wp2_with fail
    refine (iNumberOf s _ hs).mono ?_
    rintro e w1 ⟨⟨hn, _⟩ | ⟨_, rfl⟩, hb⟩
    · exact absurd hn h1
    · have hB := (Box.new w 33 #[.int .i64 0, .string ByteArray.empty, .int .i64 0, .int .i64 0]).below hb (by simp)
      have HK1 := Lib.hid ((HK.out.below ((Below.refl w.heap.size w).alloc (Nat.le_refl _) _)).below hb)
      have c0 := hB.cell 0
      have c1 := hB.cell 1
      have c2 := hB.cell 2
      have c3 := hB.cell 3
      have f0 := hB.free 0
      have f1 := hB.free 1
      have f2 := hB.free 2
      have f3 := hB.free 3
      simp at c0 c1 c2 c3
      have HB := Lib.hid hB
      have Hb := Lib.hid hb
      clear hB hb
      generalize hg : w.heap.size = g at *
      go_wp2_with (first | (go_at_call 15; refine (iIsWord _ _ HK1.out).mono ?_; rintro e w' ⟨rfl, rfl⟩) | (go_at_call 52; refine (iGoodName _ _ hs).mono ?_; rintro e w' ⟨rfl, rfl⟩) | (go_at_call 53; refine (Tryd.strings_Contains_one _ _ _).mono ?_; rintro e w' ⟨rfl, rfl⟩))
      obtain ⟨hb2, hb3⟩ := tok_end hg Hb.out HB.out (.int .i64 0) (.string ByteArray.empty) (.int .i64 0) (.int .i64 0)
      refine bodyPost_ret (results_tok rfl _ _ g _ rfl hb2 rfl) rfl ?_
      exact ⟨Or.inr ⟨Ht.out, rfl⟩, hb3⟩

end Go.Proofs.YtggpecddhileoaaDoor
