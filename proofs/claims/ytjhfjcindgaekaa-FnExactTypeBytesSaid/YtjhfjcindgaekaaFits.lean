
/-
  What is proved: contracts of the model's l7Maybe, l7Named, l7ObjectFits and l7TypeFits. No condition beside what each theorem states.
-/
import Derived.Test.YtjhfjcindgaekaaWriteB
namespace Go.Proofs.Ytjhfjcindgaekaa
open Go.ChangeShapes Go.WideShapes Go.ChangeAt Go.RowKit
set_option maxRecDepth 100000

theorem sIn7 (n a b : Int) (w : World) : Calls Try.prog 29 #[.int .i64 n, .int .i64 a, .int .i64 b] w fun e w' => e = .returned (.bool (inB a b n)) ∧ w = w' := by
  unfold inB
  by_cases h1 : a ≤ n
  · by_cases h2 : n ≤ b
    · refine (sIn_yes n a b w h1 h2).mono ?_
      rintro e w' ⟨rfl, rfl⟩
      simp [h1, h2]
    · refine (sIn_no n a b w (by omega)).mono ?_
      rintro e w' ⟨rfl, rfl⟩
      simp [h2]
  · refine (sIn_no n a b w (by omega)).mono ?_
    rintro e w' ⟨rfl, rfl⟩
    simp [h1]
theorem sIn7As {n a b : Int} {q : Bool} (h : inB a b n = q) (w : World) : Calls Try.prog 29 #[.int .i64 n, .int .i64 a, .int .i64 b] w fun e w' => e = .returned (.bool q) ∧ w = w' := h ▸ sIn7 n a b w
theorem sName7As {s : ByteArray} {q : Bool} (h : nameB s = q) (hs : s.size ≤ maxLen) (w : World) : Calls Try.prog 41 #[.string s] w fun e w' => e = .returned (.bool q) ∧ w = w' := h ▸ sl1Name s w hs
theorem sMaybe (s : ByteArray) (w : World) (hs : s.size ≤ maxLen) : Calls Try.prog 30 #[.string s] w fun e w' => e = .returned (.bool (mayB s)) ∧ w = w' := by
  have HN := Lib.hid (sl1Name s w hs)
  have Hm := Lib.hid (show mayB s = (s.toList.isEmpty || nameB s) from rfl)
  cases he : s.toList.isEmpty
  · go_enter Try.func30, Try.ntmps30
    go_wp2_with (go_at_call 41; refine HN.out.mono ?_; rintro e w' ⟨rfl, rfl⟩)
    go_ret
    exact ⟨by rw [Hm.out, he]; rfl, rfl⟩
  · go_enter Try.func30, Try.ntmps30
    go_wp2_with (go_at_call 41; refine HN.out.mono ?_; rintro e w' ⟨rfl, rfl⟩)
    go_ret
    exact ⟨by rw [Hm.out, he]; rfl, rfl⟩
theorem sMaybeAs {s : ByteArray} {q : Bool} (h : mayB s = q) (hs : s.size ≤ maxLen) (w : World) : Calls Try.prog 30 #[.string s] w fun e w' => e = .returned (.bool q) ∧ w = w' := h ▸ sMaybe s w hs
theorem nameP_of {s : ByteArray} (h : nameB s = true) : nameP s := by
  by_cases hp : nameP s
  · exact hp
  · rw [nameB_false hp] at h
    cases h
theorem sNamed (s : ByteArray) (w : World) (h : mayB s = true) : Calls Try.prog 32 #[.string s] w fun e w' => e = .returned (.string (mayPart s)) ∧ Below w.heap.size w w' := by
  cases he : s.toList.isEmpty
  · have hn : nameP s := nameP_of (by unfold mayB at h; rw [he] at h; simpa using h)
    have HN := Lib.hid (fun w => sl1NameBytes s w hn.2.1)
    have Hm := Lib.hid (show mayPart s = nbytes s by unfold mayPart namePart; rw [he, if_pos hn]; rfl)
    clear h hn
    go_enter Try.func32, Try.ntmps32
    go_wp2_with fail
    refine (HN.out _).mono ?_
    rintro e w1 ⟨rfl, hb⟩
    go_wp2_with fail
    go_ret
    exact ⟨by rw [Hm.out]; rfl, hb⟩
  · have Hm := Lib.hid (show mayPart s = zeroB by unfold mayPart; rw [he]; rfl)
    clear h
    go_enter Try.func32, Try.ntmps32
    go_wp2_with fail
    go_ret
    exact ⟨by rw [Hm.out]; rfl, Below.refl _ _⟩
theorem sNum7 (n : Int) (w : World) (h : wholeN n) : Calls Try.prog 31 #[.int .i64 n] w fun e w' => e = .returned (.string (numPart n)) ∧ Below w.heap.size w w' := by
  have hb := foldZ_bd h.1 h.2
  have := sl1NumBytes n (foldZ n).toNat w h.1 h.2 (by omega)
  unfold numPart
  rw [if_pos h]
  exact this
theorem sNameB7 (s : ByteArray) (w : World) (h : nameB s = true) : Calls Try.prog 42 #[.string s] w fun e w' => e = .returned (.string (namePart s)) ∧ Below w.heap.size w w' := by
  have hn := nameP_of h
  unfold namePart
  rw [if_pos hn]
  exact sl1NameBytes s w hn.2.1

theorem numIn_eq (lo hi n : Int) (h1 : -1000000000 ≤ lo) (h2 : hi ≤ 1000000000) : numIn lo hi n = inB lo hi n := by
  unfold numIn inB
  by_cases h : wholeN n
  · rw [decide_eq_true h, Bool.true_and]
  · rw [decide_eq_false h, Bool.false_and, Bool.false_and]
    unfold wholeN at h
    have : ¬ (lo ≤ n ∧ n ≤ hi) := by omega
    by_cases h3 : lo ≤ n
    · rw [decide_eq_false (show ¬ n ≤ hi from fun h4 => this ⟨h3, h4⟩), Bool.and_false]
    · rw [decide_eq_false h3, Bool.false_and]
theorem whole_in (n : Int) : decide (wholeN n) = inB (-1000000000) 1000000000 n := by
  unfold inB wholeN
  by_cases h1 : -1000000000 ≤ n <;> by_cases h2 : n ≤ 1000000000 <;> simp [h1, h2]
theorem each_eq {T : Type} (f : T → Bool) (most : Int) (hm : most ≤ 1000) (l : List T) : eachB f most l = (decide ((l.length : Int) ≤ most) && l.all f) := by
  unfold eachB
  by_cases h : (l.length : Int) ≤ most
  · rw [decide_eq_true (show wholeN (l.length : Int) from ⟨by omega, by omega⟩), decide_eq_true (show (0 : Int) ≤ (l.length : Int) by omega), decide_eq_true h]
    rfl
  · rw [decide_eq_false h, Bool.and_false]
theorem paramB_eq (t : ParamD) : paramB t = (nameB t.fName && inB 0 24 t.fType) := by
  unfold paramB
  rw [← numIn_eq 0 24 t.fType (by omega) (by omega)]
  rfl
theorem fieldB_eq (t : FieldD) : fieldB t = (inB 0 2 t.fMark && (mayB t.fName && inB 0 24 t.fType)) := by
  unfold fieldB
  rw [← numIn_eq 0 24 t.fType (by omega) (by omega)]
  rfl
theorem all_false {T : Type} {f : T → Bool} {l : List T} {k : Nat} (hk : k < l.length) (h : f l[k] = false) : l.all f = false := by
  rw [List.all_eq_false]
  exact ⟨l[k], List.getElem_mem hk, by simp [h]⟩
theorem objB_bad {o : ObjectD} (h : o.fParams.all paramB = false) : objB o = false := by
  unfold objB
  rw [each_eq _ _ (by omega), h]
  simp
theorem typeB_bad {t : TypeD} (h : t.fFields.all fieldB = false) : typeB t = false := by
  unfold typeB
  rw [each_eq _ _ (by omega), h]
  simp
theorem objB_eq {o : ObjectD} (h : o.fParams.all paramB = true) : objB o = (nameB o.fName && (inB 1 4 o.fKind && (inB 0 2 o.fMark && (inB (-1) 24 o.fType && (inB (-1000000000) 1000000000 o.fValue && decide ((o.fParams.length : Int) ≤ 4)))))) := by
  unfold objB
  rw [each_eq _ _ (by omega), h, numIn_eq _ _ _ (by omega) (by omega), whole_in, Bool.and_true]
  cases nameB o.fName <;> cases inB 1 4 o.fKind <;> cases inB 0 2 o.fMark <;> rfl
theorem typeB_eq {t : TypeD} (h : t.fFields.all fieldB = true) : typeB t = (inB 4 6 t.fKind && (inB 0 1000 t.fLong && (inB (-1) 24 t.fBase && (decide ((t.fFields.length : Int) ≤ 6) && (mayB t.fOwner && mayB t.fName))))) := by
  unfold typeB
  rw [each_eq _ _ (by omega), h, numIn_eq _ _ _ (by omega) (by omega), numIn_eq _ _ _ (by omega) (by omega), Bool.and_true]
  cases inB 4 6 t.fKind <;> cases inB 0 1000 t.fLong <;> cases inB (-1) 24 t.fBase <;> cases mayB t.fOwner <;> cases mayB t.fName <;> cases decide ((t.fFields.length : Int) ≤ 6) <;> rfl

set_option maxHeartbeats 16000000 in
theorem sObjectFits (t : ObjectD) (a : Option Addr) (c : Nat) (w : World) (hl : t.fParams.length ≤ 1048576) (hr : Rows paramS Any w a t.fParams) (hn : ∀ x ∈ t.fParams, x.fName.size ≤ maxLen) (hno : t.fName.size ≤ maxLen) :
    Calls Try.prog 23 #[.agg #[.string t.fName, .int .i64 t.fKind, .int .i64 t.fMark, .int .i64 t.fType, .int .i64 t.fValue, .slice a t.fParams.length c]] w fun e w' => e = .returned (.bool (objB t)) ∧ Below w.heap.size w w' := by
  have Hr := Lib.hid hr
  have Hn := Lib.hid hn
  have Bad := Lib.hid (@objB_bad t)
  have Eq := Lib.hid (@objB_eq t)
  have B0 := Lib.hid ((Below.refl w.heap.size w).alloc (Nat.le_refl _) (.cells #[.string t.fName, .int .i64 t.fKind, .int .i64 t.fMark, .int .i64 t.fType, .int .i64 t.fValue, .slice a t.fParams.length c] 41))
  have X0 := Lib.hid (Box.new w 41 #[.string t.fName, .int .i64 t.fKind, .int .i64 t.fMark, .int .i64 t.fType, .int .i64 t.fValue, .slice a t.fParams.length c])
  clear hr hn
  go_enter Try.func23, Try.ntmps23
  have y0 : _ = some (Value.slice a t.fParams.length c) := X0.out.cell 5
  go_wp2_with fail
  clear y0
  go_loopw [8] (fun i wr => ∃ k : Nat, i = .int .i64 k ∧ k ≤ t.fParams.length ∧ (t.fParams.take k).all paramB = true ∧ Box wr w.heap.size 41 #[.string t.fName, .int .i64 t.fKind, .int .i64 t.fMark, .int .i64 t.fType, .int .i64 t.fValue, .slice a t.fParams.length c] ∧ Below w.heap.size w wr) (fun i _ => t.fParams.length - (intOf i).toNat)
  case atStart => exact ⟨0, rfl, by omega, rfl, X0.out, B0.out⟩
  case round =>
    obtain ⟨k, rfl, hk, hall, hx, hbel⟩ := hrel
    have hsr := hbel.size
    have X := Lib.hid hx
    have Bl := Lib.hid hbel
    have Hall := Lib.hid hall
    clear hall
    by_cases hlt : k < t.fParams.length
    · obtain ⟨b, o, cs, rfl, _, hb1, hc1, hat⟩ := Hr.out k hlt
      obtain rfl : cs = [.string t.fParams[k].fName, .bool t.fParams[k].fByVar, .int .i64 t.fParams[k].fType] := hat
      have e0 := (hbel.cell (p := ⟨b, o + k * 3 + 0, none⟩) hb1).trans (hc1 0 (by decide))
      have e1 := (hbel.cell (p := ⟨b, o + k * 3 + 1, none⟩) hb1).trans (hc1 1 (by decide))
      have e2 := (hbel.cell (p := ⟨b, o + k * 3 + 2, none⟩) hb1).trans (hc1 2 (by decide))
      simp at e0 e1 e2
      have hnk := Hn.out _ (List.getElem_mem hlt)
      have Hbad := Lib.hid (fun (h : paramB t.fParams[k] = false) => Bad.out (all_false hlt h))
      have Hmore := Lib.hid (fun (h : paramB t.fParams[k] = true) => (show (t.fParams.take (k + 1)).all paramB = true by rw [all_more paramB hlt, Hall.out, h]; rfl))
      have Hp := Lib.hid (paramB_eq t.fParams[k])
      have XA := Lib.hid (X.out.alloc (.cells #[.string t.fParams[k].fName, .bool t.fParams[k].fByVar, .int .i64 t.fParams[k].fType] 79))
      have BA := Lib.hid (Bl.out.alloc hsr (.cells #[.string t.fParams[k].fName, .bool t.fParams[k].fByVar, .int .i64 t.fParams[k].fType] 79))
      clear hx hbel hc1
      generalize t.fParams[k] = x at *
      cases q0 : nameB x.fName
      · have Z := Lib.hid (Hbad.out (by rw [Hp.out, q0]; simp))
        go_wp2_with (first | (go_at_call 41; refine (sName7As (by first | exact q0) (by first | exact hnk) _).mono ?_; rintro e w' ⟨rfl, rfl⟩))
        go_ret
        exact ⟨by rw [Z.out]; rfl, BA.out⟩
      · skip
        cases q1 : inB 0 24 x.fType
        · have Z := Lib.hid (Hbad.out (by rw [Hp.out, q0, q1]; simp))
          go_wp2_with (first | (go_at_call 41; refine (sName7As (by first | exact q0) (by first | exact hnk) _).mono ?_; rintro e w' ⟨rfl, rfl⟩) | (go_at_call 29; refine (sIn7As (by first | exact q1) _).mono ?_; rintro e w' ⟨rfl, rfl⟩))
          go_ret
          exact ⟨by rw [Z.out]; rfl, BA.out⟩
        · skip
          have Z := Lib.hid (Hmore.out (by rw [Hp.out, q0, q1]; rfl))
          go_wp2_with (first | (go_at_call 41; refine (sName7As (by first | exact q0) (by first | exact hnk) _).mono ?_; rintro e w' ⟨rfl, rfl⟩) | (go_at_call 29; refine (sIn7As (by first | exact q1) _).mono ?_; rintro e w' ⟨rfl, rfl⟩))
          exact ⟨⟨k + 1, by congr 1, by omega, Z.out, XA.out, BA.out⟩, by simp [intOf]; omega⟩
    · have Q := Lib.hid (Eq.out (by have h := Hall.out; rwa [show k = t.fParams.length by omega, List.take_length] at h))
      have y0 : _ = some (Value.string t.fName) := X.out.cell 0
      have y1 : _ = some (Value.int .i64 t.fKind) := X.out.cell 1
      have y2 : _ = some (Value.int .i64 t.fMark) := X.out.cell 2
      have y3 : _ = some (Value.int .i64 t.fType) := X.out.cell 3
      have y4 : _ = some (Value.int .i64 t.fValue) := X.out.cell 4
      have y5 : _ = some (Value.slice a t.fParams.length c) := X.out.cell 5
      clear hx hbel
      cases q0 : nameB t.fName
      · have Z := Lib.hid (show objB t = false by rw [Q.out, q0]; simp)
        go_wp2_with (first | (go_at_call 41; refine (sName7As (by first | exact q0) (by first | exact hno) _).mono ?_; rintro e w' ⟨rfl, rfl⟩))
        go_ret
        exact ⟨by rw [Z.out]; rfl, Bl.out⟩
      · skip
        cases q1 : inB 1 4 t.fKind
        · have Z := Lib.hid (show objB t = false by rw [Q.out, q0, q1]; simp)
          go_wp2_with (first | (go_at_call 41; refine (sName7As (by first | exact q0) (by first | exact hno) _).mono ?_; rintro e w' ⟨rfl, rfl⟩) | (go_at_call 29; refine (sIn7As (by first | exact q1) _).mono ?_; rintro e w' ⟨rfl, rfl⟩))
          go_ret
          exact ⟨by rw [Z.out]; rfl, Bl.out⟩
        · skip
          cases q2 : inB 0 2 t.fMark
          · have Z := Lib.hid (show objB t = false by rw [Q.out, q0, q1, q2]; simp)
            go_wp2_with (first | (go_at_call 41; refine (sName7As (by first | exact q0) (by first | exact hno) _).mono ?_; rintro e w' ⟨rfl, rfl⟩) | (go_at_call 29; refine (sIn7As (by first | exact q1 | exact q2) _).mono ?_; rintro e w' ⟨rfl, rfl⟩))
            go_ret
            exact ⟨by rw [Z.out]; rfl, Bl.out⟩
          · skip
            cases q3 : inB (-1) 24 t.fType
            · have Z := Lib.hid (show objB t = false by rw [Q.out, q0, q1, q2, q3]; simp)
              go_wp2_with (first | (go_at_call 41; refine (sName7As (by first | exact q0) (by first | exact hno) _).mono ?_; rintro e w' ⟨rfl, rfl⟩) | (go_at_call 29; refine (sIn7As (by first | exact q1 | exact q2 | exact q3) _).mono ?_; rintro e w' ⟨rfl, rfl⟩))
              go_ret
              exact ⟨by rw [Z.out]; rfl, Bl.out⟩
            · skip
              cases q4 : inB (-1000000000) 1000000000 t.fValue
              · have Z := Lib.hid (show objB t = false by rw [Q.out, q0, q1, q2, q3, q4]; simp)
                go_wp2_with (first | (go_at_call 41; refine (sName7As (by first | exact q0) (by first | exact hno) _).mono ?_; rintro e w' ⟨rfl, rfl⟩) | (go_at_call 29; refine (sIn7As (by first | exact q1 | exact q2 | exact q3 | exact q4) _).mono ?_; rintro e w' ⟨rfl, rfl⟩))
                go_ret
                exact ⟨by rw [Z.out]; rfl, Bl.out⟩
              · skip
                cases q5 : decide ((t.fParams.length : Int) ≤ 4)
                · have Z := Lib.hid (show objB t = false by rw [Q.out, q0, q1, q2, q3, q4, q5]; simp)
                  go_wp2_with (first | (go_at_call 41; refine (sName7As (by first | exact q0) (by first | exact hno) _).mono ?_; rintro e w' ⟨rfl, rfl⟩) | (go_at_call 29; refine (sIn7As (by first | exact q1 | exact q2 | exact q3 | exact q4) _).mono ?_; rintro e w' ⟨rfl, rfl⟩))
                  go_ret
                  exact ⟨by rw [Z.out]; rfl, Bl.out⟩
                · skip
                  have Z := Lib.hid (show objB t = true by rw [Q.out, q0, q1, q2, q3, q4, q5]; rfl)
                  go_wp2_with (first | (go_at_call 41; refine (sName7As (by first | exact q0) (by first | exact hno) _).mono ?_; rintro e w' ⟨rfl, rfl⟩) | (go_at_call 29; refine (sIn7As (by first | exact q1 | exact q2 | exact q3 | exact q4) _).mono ?_; rintro e w' ⟨rfl, rfl⟩))
                  go_ret
                  exact ⟨by rw [Z.out]; rfl, Bl.out⟩

set_option maxHeartbeats 16000000 in
theorem sTypeFits (t : TypeD) (a : Option Addr) (c : Nat) (w : World) (hl : t.fFields.length ≤ 1048576) (hr : Rows fieldS Any w a t.fFields) (hn : ∀ x ∈ t.fFields, x.fName.size ≤ maxLen) (hno : t.fOwner.size ≤ maxLen) (hnm : t.fName.size ≤ maxLen) :
    Calls Try.prog 16 #[.agg #[.int .i64 t.fKind, .int .i64 t.fLong, .int .i64 t.fBase, .slice a t.fFields.length c, .string t.fOwner, .string t.fName]] w fun e w' => e = .returned (.bool (typeB t)) ∧ Below w.heap.size w w' := by
  have Hr := Lib.hid hr
  have Hn := Lib.hid hn
  have Bad := Lib.hid (@typeB_bad t)
  have Eq := Lib.hid (@typeB_eq t)
  have B0 := Lib.hid ((Below.refl w.heap.size w).alloc (Nat.le_refl _) (.cells #[.int .i64 t.fKind, .int .i64 t.fLong, .int .i64 t.fBase, .slice a t.fFields.length c, .string t.fOwner, .string t.fName] 30))
  have X0 := Lib.hid (Box.new w 30 #[.int .i64 t.fKind, .int .i64 t.fLong, .int .i64 t.fBase, .slice a t.fFields.length c, .string t.fOwner, .string t.fName])
  clear hr hn
  go_enter Try.func16, Try.ntmps16
  have y0 : _ = some (Value.slice a t.fFields.length c) := X0.out.cell 3
  go_wp2_with fail
  clear y0
  go_loopw [8] (fun i wr => ∃ k : Nat, i = .int .i64 k ∧ k ≤ t.fFields.length ∧ (t.fFields.take k).all fieldB = true ∧ Box wr w.heap.size 30 #[.int .i64 t.fKind, .int .i64 t.fLong, .int .i64 t.fBase, .slice a t.fFields.length c, .string t.fOwner, .string t.fName] ∧ Below w.heap.size w wr) (fun i _ => t.fFields.length - (intOf i).toNat)
  case atStart => exact ⟨0, rfl, by omega, rfl, X0.out, B0.out⟩
  case round =>
    obtain ⟨k, rfl, hk, hall, hx, hbel⟩ := hrel
    have hsr := hbel.size
    have X := Lib.hid hx
    have Bl := Lib.hid hbel
    have Hall := Lib.hid hall
    clear hall
    by_cases hlt : k < t.fFields.length
    · obtain ⟨b, o, cs, rfl, _, hb1, hc1, hat⟩ := Hr.out k hlt
      obtain rfl : cs = [.string t.fFields[k].fName, .int .i64 t.fFields[k].fMark, .int .i64 t.fFields[k].fType] := hat
      have e0 := (hbel.cell (p := ⟨b, o + k * 3 + 0, none⟩) hb1).trans (hc1 0 (by decide))
      have e1 := (hbel.cell (p := ⟨b, o + k * 3 + 1, none⟩) hb1).trans (hc1 1 (by decide))
      have e2 := (hbel.cell (p := ⟨b, o + k * 3 + 2, none⟩) hb1).trans (hc1 2 (by decide))
      simp at e0 e1 e2
      have hnk := Hn.out _ (List.getElem_mem hlt)
      have Hbad := Lib.hid (fun (h : fieldB t.fFields[k] = false) => Bad.out (all_false hlt h))
      have Hmore := Lib.hid (fun (h : fieldB t.fFields[k] = true) => (show (t.fFields.take (k + 1)).all fieldB = true by rw [all_more fieldB hlt, Hall.out, h]; rfl))
      have Hp := Lib.hid (fieldB_eq t.fFields[k])
      have XA := Lib.hid (X.out.alloc (.cells #[.string t.fFields[k].fName, .int .i64 t.fFields[k].fMark, .int .i64 t.fFields[k].fType] 65))
      have BA := Lib.hid (Bl.out.alloc hsr (.cells #[.string t.fFields[k].fName, .int .i64 t.fFields[k].fMark, .int .i64 t.fFields[k].fType] 65))
      clear hx hbel hc1
      generalize t.fFields[k] = x at *
      cases q0 : inB 0 2 x.fMark
      · have Z := Lib.hid (Hbad.out (by rw [Hp.out, q0]; simp))
        go_wp2_with (first | (go_at_call 29; refine (sIn7As (by first | exact q0) _).mono ?_; rintro e w' ⟨rfl, rfl⟩))
        go_ret
        exact ⟨by rw [Z.out]; rfl, BA.out⟩
      · skip
        cases q1 : mayB x.fName
        · have Z := Lib.hid (Hbad.out (by rw [Hp.out, q0, q1]; simp))
          go_wp2_with (first | (go_at_call 29; refine (sIn7As (by first | exact q0) _).mono ?_; rintro e w' ⟨rfl, rfl⟩) | (go_at_call 30; refine (sMaybeAs (by first | exact q1) (by first | exact hnk) _).mono ?_; rintro e w' ⟨rfl, rfl⟩))
          go_ret
          exact ⟨by rw [Z.out]; rfl, BA.out⟩
        · skip
          cases q2 : inB 0 24 x.fType
          · have Z := Lib.hid (Hbad.out (by rw [Hp.out, q0, q1, q2]; simp))
            go_wp2_with (first | (go_at_call 29; refine (sIn7As (by first | exact q0 | exact q2) _).mono ?_; rintro e w' ⟨rfl, rfl⟩) | (go_at_call 30; refine (sMaybeAs (by first | exact q1) (by first | exact hnk) _).mono ?_; rintro e w' ⟨rfl, rfl⟩))
            go_ret
            exact ⟨by rw [Z.out]; rfl, BA.out⟩
          · skip
            have Z := Lib.hid (Hmore.out (by rw [Hp.out, q0, q1, q2]; rfl))
            go_wp2_with (first | (go_at_call 29; refine (sIn7As (by first | exact q0 | exact q2) _).mono ?_; rintro e w' ⟨rfl, rfl⟩) | (go_at_call 30; refine (sMaybeAs (by first | exact q1) (by first | exact hnk) _).mono ?_; rintro e w' ⟨rfl, rfl⟩))
            exact ⟨⟨k + 1, by congr 1, by omega, Z.out, XA.out, BA.out⟩, by simp [intOf]; omega⟩
    · have Q := Lib.hid (Eq.out (by have h := Hall.out; rwa [show k = t.fFields.length by omega, List.take_length] at h))
      have y0 : _ = some (Value.int .i64 t.fKind) := X.out.cell 0
      have y1 : _ = some (Value.int .i64 t.fLong) := X.out.cell 1
      have y2 : _ = some (Value.int .i64 t.fBase) := X.out.cell 2
      have y3 : _ = some (Value.slice a t.fFields.length c) := X.out.cell 3
      have y4 : _ = some (Value.string t.fOwner) := X.out.cell 4
      have y5 : _ = some (Value.string t.fName) := X.out.cell 5
      clear hx hbel
      cases q0 : inB 4 6 t.fKind
      · have Z := Lib.hid (show typeB t = false by rw [Q.out, q0]; simp)
        go_wp2_with (first | (go_at_call 29; refine (sIn7As (by first | exact q0) _).mono ?_; rintro e w' ⟨rfl, rfl⟩))
        go_ret
        exact ⟨by rw [Z.out]; rfl, Bl.out⟩
      · skip
        cases q1 : inB 0 1000 t.fLong
        · have Z := Lib.hid (show typeB t = false by rw [Q.out, q0, q1]; simp)
          go_wp2_with (first | (go_at_call 29; refine (sIn7As (by first | exact q0 | exact q1) _).mono ?_; rintro e w' ⟨rfl, rfl⟩))
          go_ret
          exact ⟨by rw [Z.out]; rfl, Bl.out⟩
        · skip
          cases q2 : inB (-1) 24 t.fBase
          · have Z := Lib.hid (show typeB t = false by rw [Q.out, q0, q1, q2]; simp)
            go_wp2_with (first | (go_at_call 29; refine (sIn7As (by first | exact q0 | exact q1 | exact q2) _).mono ?_; rintro e w' ⟨rfl, rfl⟩))
            go_ret
            exact ⟨by rw [Z.out]; rfl, Bl.out⟩
          · skip
            cases q3 : decide ((t.fFields.length : Int) ≤ 6)
            · have Z := Lib.hid (show typeB t = false by rw [Q.out, q0, q1, q2, q3]; simp)
              go_wp2_with (first | (go_at_call 29; refine (sIn7As (by first | exact q0 | exact q1 | exact q2) _).mono ?_; rintro e w' ⟨rfl, rfl⟩))
              go_ret
              exact ⟨by rw [Z.out]; rfl, Bl.out⟩
            · skip
              cases q4 : mayB t.fOwner
              · have Z := Lib.hid (show typeB t = false by rw [Q.out, q0, q1, q2, q3, q4]; simp)
                go_wp2_with (first | (go_at_call 29; refine (sIn7As (by first | exact q0 | exact q1 | exact q2) _).mono ?_; rintro e w' ⟨rfl, rfl⟩) | (go_at_call 30; refine (sMaybeAs (by first | exact q4) (by first | exact hno) _).mono ?_; rintro e w' ⟨rfl, rfl⟩))
                go_ret
                exact ⟨by rw [Z.out]; rfl, Bl.out⟩
              · skip
                cases q5 : mayB t.fName
                · have Z := Lib.hid (show typeB t = false by rw [Q.out, q0, q1, q2, q3, q4, q5]; simp)
                  go_wp2_with (first | (go_at_call 29; refine (sIn7As (by first | exact q0 | exact q1 | exact q2) _).mono ?_; rintro e w' ⟨rfl, rfl⟩) | (go_at_call 30; refine (sMaybeAs (by first | exact q4 | exact q5) (by first | exact hno | exact hnm) _).mono ?_; rintro e w' ⟨rfl, rfl⟩))
                  go_ret
                  exact ⟨by rw [Z.out]; rfl, Bl.out⟩
                · skip
                  have Z := Lib.hid (show typeB t = true by rw [Q.out, q0, q1, q2, q3, q4, q5]; rfl)
                  go_wp2_with (first | (go_at_call 29; refine (sIn7As (by first | exact q0 | exact q1 | exact q2) _).mono ?_; rintro e w' ⟨rfl, rfl⟩) | (go_at_call 30; refine (sMaybeAs (by first | exact q4 | exact q5) (by first | exact hno | exact hnm) _).mono ?_; rintro e w' ⟨rfl, rfl⟩))
                  go_ret
                  exact ⟨by rw [Z.out]; rfl, Bl.out⟩

end Go.Proofs.Ytjhfjcindgaekaa
