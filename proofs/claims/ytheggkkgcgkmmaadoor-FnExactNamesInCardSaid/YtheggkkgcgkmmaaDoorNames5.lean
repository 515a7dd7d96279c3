
/-
  What is proved: the names in actions, as data; the contract of the program's NamesIn. No condition beside what each theorem states.
-/
import Derived.Test.YtheggkkgcgkmmaaDoorActs
import Derived.Test.YtheggkkgcgkmmaaDoorUseRow
namespace Go.Proofs.YtheggkkgcgkmmaaDoor
open Go.ChangeShapes Go.WideShapes Go.ChangeAt Go.RowKit
set_option maxRecDepth 100000

open Classical in
noncomputable def addUse (l : List UseD) : ActD → List UseD
  | .name m n => if (⟨m, n⟩ : UseD) ∈ l then l else l ++ [⟨m, n⟩]
  | _ => l
noncomputable def namesOf (xs : List ActD) : List UseD := xs.foldl addUse []
theorem namesOf_snoc (xs : List ActD) (a : ActD) : namesOf (xs ++ [a]) = addUse (namesOf xs) a := by simp [namesOf]
theorem addUse_in {l : List UseD} {m n : ByteArray} (h : (⟨m, n⟩ : UseD) ∈ l) : addUse l (.name m n) = l := by simp [addUse, h]
theorem addUse_out {l : List UseD} {m n : ByteArray} (h : (⟨m, n⟩ : UseD) ∉ l) : addUse l (.name m n) = l ++ [⟨m, n⟩] := by simp [addUse, h]
theorem addUse_len (l : List UseD) (a : ActD) : (addUse l a).length ≤ l.length + 1 := by
  cases a <;> simp only [addUse] <;> first | omega | (split <;> simp)
theorem foldUse_len : ∀ (xs : List ActD) (l : List UseD), (xs.foldl addUse l).length ≤ l.length + xs.length
  | [], _ => by simp
  | a :: xs, l => by
    have h1 := foldUse_len xs (addUse l a)
    have h2 := addUse_len l a
    simp only [List.foldl_cons, List.length_cons]
    omega
theorem namesOf_len (xs : List ActD) : (namesOf xs).length ≤ xs.length := by
  have := foldUse_len xs []
  simpa [namesOf] using this
/-- What the steps do is what each of them does. -/
theorem ActsTo.each {l : List StepD} {n : Int} {xs : List ActD} (h : ActsTo l n xs) : ∀ k (hk : k < l.length) (hx : k < xs.length), IsAct l[k] xs[k] := by
  induction h with
  | nil => intro k hk; simp at hk
  | @snoc l n xs s a h1 h2 h3 ih =>
    intro k hk hx
    have hlen := h1.len.1
    by_cases he : k < l.length
    · rw [List.getElem_append_left he, List.getElem_append_left (by omega)]
      exact ih k he (by omega)
    · obtain rfl : k = l.length := by simp at hk; omega
      simp only [List.getElem_append_right (Nat.le_refl _), List.getElem_append_right (show xs.length ≤ l.length by omega)]
      simpa using h2

theorem asName_num (x : Int) (W : World) : (Instr.typeAssert (.iface 113 (.agg #[.int .i64 x])) 75 77 true).run Tryd.prog W = .ok (.tuple #[.agg #[.string ByteArray.empty, .string ByteArray.empty], .bool false]) W := by
  show (Instr.typeAssert _ _ _ _).run _ _ = _
  kernel_rfl
theorem asName_pair (x z : Int) (y : ByteArray) (W : World) : (Instr.typeAssert (.iface 121 (.agg #[.int .i64 x, .string y, .int .i64 z])) 75 77 true).run Tryd.prog W = .ok (.tuple #[.agg #[.string ByteArray.empty, .string ByteArray.empty], .bool false]) W := by
  show (Instr.typeAssert _ _ _ _).run _ _ = _
  kernel_rfl
theorem asName_minus (W : World) : (Instr.typeAssert (.iface 115 (.agg #[])) 75 77 true).run Tryd.prog W = .ok (.tuple #[.agg #[.string ByteArray.empty, .string ByteArray.empty], .bool false]) W := by
  show (Instr.typeAssert _ _ _ _).run _ _ = _
  kernel_rfl
theorem asName_name (x y : ByteArray) (W : World) : (Instr.typeAssert (.iface 77 (.agg #[.string x, .string y])) 75 77 true).run Tryd.prog W = .ok (.tuple #[.agg #[.string x, .string y], .bool true]) W := by
  show (Instr.typeAssert _ _ _ _).run _ _ = _
  kernel_rfl

def PostNI (l : List StepD) (w : World) (e : Ending) (w' : World) : Prop :=
  ∃ v us ok, e = .returned (.tuple #[v, .bool ok]) ∧ OwnUses w' w.heap.size v us ∧ ((∃ xs, GoodE l xs ∧ us = namesOf xs ∧ ok = true) ∨ ((∀ xs, ¬ GoodE l xs) ∧ us = [] ∧ ok = false)) ∧ Below w.heap.size w w'

set_option maxHeartbeats 8000000 in
theorem iNamesIn (a : Option Addr) (c : Nat) (l : List StepD) (w : World) (hk : Kept w) (hcm : ∀ t ∈ l, t.fName.size ≤ maxLen ∧ t.fMod.size ≤ maxLen) (hr : Rows stepS Any w a l) : Calls Tryd.prog 18 #[.slice a l.length c] w (PostNI l w) := by
  have Hg := Lib.hid (iActionsOf a c l w hk hcm hr)
  clear hk hcm hr
  go_enter Tryd.func18, Tryd.ntmps18
  go_wp2_with fail
  refine Hg.out.mono ?_
  rintro e w1 ⟨⟨v, ok, rfl, hd⟩, hb⟩
  have B1 := Lib.hid hb
  clear hb Hg
  rcases hd with ⟨xs, hg, hown, rfl⟩ | ⟨hno, rfl⟩
  · obtain ⟨a2, c2, rfl, hrow⟩ := hown.at
    have hx40 : xs.length ≤ 40 := by have := hg.2.len.1; have := hg.1; omega
    have Hcell : Hid (∀ k (h : k < xs.length), ∃ g, a2 = some ⟨g, 0, none⟩ ∧ g < w1.heap.size ∧ w1.cell? ⟨g, k, none⟩ = some (xs[k]).val) := Lib.hid (fun k h => by
      rcases hrow with h3 | ⟨g, t, cur, rfl, hb, hx, hs, hc⟩
      · have : xs.length = 0 := by simpa using congrArg List.length h3
        omega
      · refine ⟨g, rfl, hx.lt, ?_⟩
        rw [hx.cell, hc k (by simpa using h)]
        simp [h])
    have Hact := Lib.hid hg.2.each
    have Hlen := Lib.hid hg.2.len.1
    have Hg := Lib.hid hg
    clear hrow hown hg
    go_wp2_with fail
    go_loopw [6, 20] (fun v i wr => ∃ k : Nat, i = .int .i64 k ∧ k ≤ xs.length ∧ OwnUses wr w1.heap.size v (namesOf (xs.take k)) ∧ Below w1.heap.size w1 wr) (fun _ i _ => xs.length - (intOf i).toNat)
    case atStart => exact ⟨0, rfl, by omega, OwnUses.nil, Below.refl _ _⟩
    case round =>
      obtain ⟨k, rfl, hk, hown, hbel⟩ := hrel
      have hnl : (namesOf (xs.take k)).length ≤ k := Nat.le_trans (namesOf_len _) (by simp; omega)
      have Hown := Lib.hid hown
      have hs1 := hbel.size
      by_cases hlt : k < xs.length
      · obtain ⟨g, rfl, hgl, hcell⟩ := Hcell.out k hlt
        have e0 := (hbel.cell (p := ⟨g, k, none⟩) hgl).trans hcell
        have hact := Hact.out k (by have := Hlen.out; omega) hlt
        have Hbel := Lib.hid hbel
        have Hsn := Lib.hid (show namesOf (xs.take (k + 1)) = addUse (namesOf (xs.take k)) xs[k] by rw [take_snoc hlt, namesOf_snoc])
        clear hcell hbel hown
        generalize hz : xs[k] = z at *
        clear hz
        cases z
        case name m n =>
          have hsz : m.size ≤ 1048576 ∧ n.size ≤ 1048576 := by
            rcases hact with ⟨_, _, _, _, _, h⟩ | ⟨_, _, h1, h2, h⟩ | ⟨_, _, h⟩ | ⟨j, _, _, _, h⟩
            · cases h
            · injection h with h3 h4
              subst h3 h4
              unfold nameP at h1
              refine ⟨?_, by omega⟩
              rcases h2 with h2 | h2
              · rw [h2]; decide
              · unfold nameP at h2; omega
            · cases h
            · cases h
          obtain ⟨hm, hn⟩ := hsz
          clear hact
          dsimp only [ActD.val] at e0
          obtain ⟨a3, c3, rfl, _, _, _, hrw⟩ := Hown.out.rows
          have as1 := fun W => asName_name m n W
          have R1 := Lib.hid (hrw.any.below ((Below.refl wr.heap.size wr).alloc (Nat.le_refl _) (.cells #[.string m, .string n] 77)))
          have X1 := Lib.hid (Box.new wr 77 #[.string m, .string n])
          have O1 := Lib.hid (Hown.out.alloc (.cells #[.string m, .string n] 77))
          have B2 := Lib.hid (Hbel.out.alloc hs1 (.cells #[.string m, .string n] 77))
          clear hrw Hown
          by_cases hmem : (⟨m, n⟩ : UseD) ∈ namesOf (xs.take k)
          · have hq := hasU_true hmem
            have Hs2 := Lib.hid (Hsn.out.trans (addUse_in hmem))
            clear hmem
            go_wp2_with fail
            refine (iContainsUse a3 c3 _ ⟨m, n⟩ _ (by omega) R1.out).mono ?_
            rw [hq]
            rintro e w2 ⟨rfl, hb2⟩
            have B3 := Lib.hid (B2.out.trans (hb2.mono B2.out.size))
            have O3 := Lib.hid (show OwnUses w2 w1.heap.size _ (namesOf (xs.take (k + 1))) by rw [Hs2.out]; exact O1.out.below hb2)
            have hle := congrArg List.length Hs2.out
            have Hle := Lib.hid hle
            clear hb2 hle hq
            go_wp2_with fail
            refine ⟨⟨k + 1, by congr 1, by omega, ?_, B3.out⟩, by simp [intOf]; omega⟩
            have h3 := O3.out
            rw [Hs2.out] at h3 ⊢
            exact h3
          · have hq := hasU_false hmem
            have Hs2 := Lib.hid (Hsn.out.trans (addUse_out hmem))
            clear hmem
            go_wp2_with fail
            refine (iContainsUse a3 c3 _ ⟨m, n⟩ _ (by omega) R1.out).mono ?_
            rw [hq]
            rintro e w2 ⟨rfl, hb2⟩
            have B3 := Lib.hid (B2.out.trans (hb2.mono B2.out.size))
            have O3 := Lib.hid (O1.out.below hb2)
            have X3 := X1.out.below hb2 X1.out.lt
            have x0 : _ = some (Value.string m) := X3.cell 0
            have x1 : _ = some (Value.string n) := X3.cell 1
            clear hb2 hq X3
            go_wp2_with fail
            refine (iClonedUse m n _ hm hn).mono ?_
            rintro e w3 ⟨rfl, hb3⟩
            have B4 := Lib.hid (B3.out.trans (hb3.mono B3.out.size))
            have O4 := Lib.hid (O3.out.below hb3)
            have hs4 := B4.out.size
            clear hb3 x0 x1
            go_wp2_with (at_builtin; refine wpList_pushUse rfl _ _ rfl w1.heap.size _ _ (namesOf (xs.take k)) rfl _ (O4.out.alloc _) ⟨m, n⟩ rfl (Box.new' _ _ _ (by simp)) (by omega) (by simp; omega) ?_; intro v' w4 hown4 hg4 hlt4)
            have B5 := Lib.hid ((B4.out.alloc hs4 _).grown hg4 (by simp; omega) (fun k hk => (hlt4 k hk).1))
            exact ⟨⟨k + 1, by congr 1, by omega, by rw [Hs2.out]; exact hown4, B5.out⟩, by simp [intOf]; omega⟩
        case num x =>
          have as1 := fun W => asName_num x W
          dsimp only [ActD.val] at e0
          have O4 := Lib.hid (show OwnUses wr w1.heap.size u6 (namesOf (xs.take (k + 1))) by rw [Hsn.out]; exact Hown.out)
          clear hact Hown
          go_wp2_with fail
          exact ⟨⟨k + 1, by congr 1, by omega, O4.out.alloc _, Hbel.out.alloc hs1 _⟩, by simp [intOf]; omega⟩
        case pair j =>
          have as1 := fun W => asName_pair (opK j) (opS j) (opT j) W
          dsimp only [ActD.val] at e0
          have O4 := Lib.hid (show OwnUses wr w1.heap.size u6 (namesOf (xs.take (k + 1))) by rw [Hsn.out]; exact Hown.out)
          clear hact Hown
          go_wp2_with fail
          exact ⟨⟨k + 1, by congr 1, by omega, O4.out.alloc _, Hbel.out.alloc hs1 _⟩, by simp [intOf]; omega⟩
        case minus =>
          have as1 := fun W => asName_minus W
          dsimp only [ActD.val] at e0
          have O4 := Lib.hid (show OwnUses wr w1.heap.size u6 (namesOf (xs.take (k + 1))) by rw [Hsn.out]; exact Hown.out)
          clear hact Hown
          go_wp2_with fail
          exact ⟨⟨k + 1, by congr 1, by omega, O4.out.alloc _, Hbel.out.alloc hs1 _⟩, by simp [intOf]; omega⟩
      · obtain rfl : k = xs.length := by omega
        have O2 := Lib.hid (List.take_length ▸ Hown.out)
        have Hbel := Lib.hid hbel
        clear hbel hown Hown
        go_wp2_with fail
        go_ret2
        unfold PostNI
        exact ⟨_, _, true, rfl, O2.out.lower B1.out.size, .inl ⟨xs, Hg.out, rfl, rfl⟩, B1.out.trans (Hbel.out.mono B1.out.size)⟩
  · have Hno := Lib.hid hno
    clear hno
    go_wp2_with fail
    go_ret2
    unfold PostNI
    exact ⟨_, [], false, rfl, OwnUses.nil, .inr ⟨Hno.out, rfl, rfl⟩, B1.out⟩
end Go.Proofs.YtheggkkgcgkmmaaDoor
