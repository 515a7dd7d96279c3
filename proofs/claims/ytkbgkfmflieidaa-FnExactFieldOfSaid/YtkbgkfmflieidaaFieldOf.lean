
/-
  What is proved: contracts of FieldOf, the program's and the model's. No condition beside what each theorem states.
-/
import Derived.Test.YtkbgkfmflieidaaExtends
namespace Go.Proofs.Ytkbgkfmflieidaa
open Go.ChangeShapes Go.WideShapes Go.ChangeAt Go.RowKit

def fieldsZ (l : List TypeD) (x : Int) : List FieldD := if h : 0 ≤ x ∧ x.toNat < l.length then l[x.toNat].fFields else []
theorem fieldsZ_in {l : List TypeD} {k : Nat} (h : k < l.length) : fieldsZ l (k : Int) = l[k].fFields := by
  unfold fieldsZ
  rw [dif_pos ⟨by omega, by omega⟩]
  simp
/-- The Type of the first field of a name. -/
def firstF (name : ByteArray) : List FieldD → Option Int
  | [] => none
  | f :: fs => if f.fName = name then some f.fType else firstF name fs
def allF (l : List TypeD) (recs : List Int) : List FieldD := recs.flatMap (fieldsZ l)
theorem allF_cons (l : List TypeD) (x : Int) (recs : List Int) : allF l (x :: recs) = fieldsZ l x ++ allF l recs := by simp [allF]
theorem firstF_drop {name : ByteArray} {fs : List FieldD} {j : Nat} (hj : j < fs.length) (rest : List FieldD) : firstF name (fs.drop j ++ rest) = if fs[j].fName = name then some fs[j].fType else firstF name (fs.drop (j + 1) ++ rest) := by
  rw [List.drop_eq_getElem_cons hj]
  rfl
theorem firstF_mem {name : ByteArray} : ∀ {fs : List FieldD} {z : Int}, firstF name fs = some z → ∃ f ∈ fs, f.fType = z
  | [], _, h => by cases h
  | f :: fs, z, h => by
    unfold firstF at h
    split at h
    · injection h with h; exact ⟨f, by simp, h⟩
    · obtain ⟨g, hg, e⟩ := firstF_mem h; exact ⟨g, by simp [hg], e⟩
theorem field_pos {l : List TypeD} (hne : near l) {recs : List Int} (hk : ∀ y ∈ recs, kindZ l y = 5) {name : ByteArray} {z : Int} (h : firstF name (allF l recs) = some z) : 0 ≤ z := by
  obtain ⟨f, hf, rfl⟩ := firstF_mem h
  obtain ⟨y, hy, hfy⟩ := List.mem_flatMap.1 hf
  obtain ⟨k, rfl, hkl, h5⟩ := kind5 (hk y hy)
  rw [fieldsZ_in hkl] at hfy
  exact (hne.parts k hkl f.fType (by unfold partsD; exact List.mem_append_right _ (List.mem_map_of_mem hfy))).1

def fieldP (l : List TypeD) (x : Int) : Prop := good l ∧ kindZ l x = 5
open Classical in
noncomputable def fieldZ (l : List TypeD) (x : Int) (name : ByteArray) : Option Int := if fieldP l x then firstF name (allF l (chain l x)) else none
theorem fieldZ_out {l : List TypeD} {x : Int} {name : ByteArray} (h : ¬ fieldP l x) : fieldZ l x name = none := by unfold fieldZ; rw [if_neg h]
theorem fieldZ_in {l : List TypeD} {x : Int} {name : ByteArray} (h : fieldP l x) : fieldZ l x name = firstF name (allF l (chain l x)) := by unfold fieldZ; rw [if_pos h]
def intV (o : Option Int) : Value := .int .i64 (o.getD 0)
def isV (o : Option Int) : Value := .bool o.isSome

set_option maxRecDepth 100000 in
set_option maxHeartbeats 8000000 in
theorem iFieldOf (a : Option Addr) (c : Nat) (l : List TypeD) (x : Int) (name : ByteArray) (w : World) (hl : l.length ≤ 1048576) (hc : l.length ≤ c) (hc2 : c ≤ maxLen) (hm : ∀ t ∈ l, t.mod) (hr : Rows typeS Any w a l) :
    Calls Try.prog 29 #[.slice a l.length c, .int .i64 x, .string name] w fun e w' => e = .returned (.tuple #[intV (fieldZ l x name), isV (fieldZ l x name)]) ∧ Below w.heap.size w w' := by
  have Hr := Lib.hid hr
  have Hm := Lib.hid hm
  clear hr hm
  go_enter Try.func29, Try.ntmps29
  go_wp2_with fail
  refine (iGoodTypes a c l w hl hc hc2 Hm.out Hr.out).mono ?_
  rintro e w1 ⟨rfl, hb1⟩
  have B1 := Lib.hid hb1
  have R1 := Lib.hid (Hr.out.below hb1)
  clear hb1
  by_cases hg : good l
  · have hq := goodB_true hg
    have Hg := Lib.hid hg
    clear hg
    generalize goodB l = q at *
    subst hq
    go_wp2_with fail
    refine (iKindAt a c l x w1 R1.out).mono ?_
    rintro e w2 ⟨rfl, rfl⟩
    by_cases hx : kindZ l x = 5
    · have Hx := Lib.hid hx
      have Hv := Lib.hid (fieldZ_in (name := name) (show fieldP l x from ⟨Hg.out, hx⟩))
      rw [hx]
      clear hx
      go_wp2_with fail
      refine (iBasesFrom a c l x w1 Hg.out Hx.out R1.out).mono ?_
      rintro e w2 ⟨v, rfl, hown, hb2⟩
      have hcl := chain_len Hg.out x
      obtain ⟨a2, c2, rfl, _, hn2⟩ := hown.nums
      have N2 := Lib.hid hn2
      have B2 := Lib.hid (B1.out.trans (hb2.mono B1.out.size))
      have R2 := Lib.hid (Hr.out.below B2.out)
      have Hck := Lib.hid (fun y (hy : y ∈ chain l x) => chain_kind hy)
      clear hown hn2 hb2
      obtain ⟨z, hzz⟩ : ∃ z, fieldZ l x name = z := ⟨_, rfl⟩
      rw [hzz] at Hv
      have Hzz := Lib.hid hzz
      clear hzz
      generalize chain l x = recs at *
      go_wp2_with fail
      go_loopw [25] (fun i wr => ∃ k : Nat, i = .int .i64 k ∧ k ≤ recs.length ∧ z = firstF name (allF l (recs.drop k)) ∧ Below w2.heap.size w2 wr) (fun i _ => recs.length - (intOf i).toNat)
      case atStart => exact ⟨0, rfl, by omega, Hv.out, Below.refl _ _⟩
      case round =>
        obtain ⟨k, rfl, hk, hz, hbel⟩ := hrel
        have Hz := Lib.hid hz
        have Hbel := Lib.hid hbel
        clear hz hbel
        obtain ⟨wo, hwo⟩ : ∃ x, x = wr := ⟨_, rfl⟩
        subst hwo
        by_cases hlt : k < recs.length
        · obtain ⟨b2, o2, rfl, _, g0⟩ := N2.out k hlt
          replace g0 := (Hbel.out.cell (p := ⟨b2, o2 + k, none⟩) (by assumption)).trans g0
          obtain ⟨n, hn, hnl, h5⟩ := kind5 (Hck.out _ (List.getElem_mem hlt))
          have Hz2 := Lib.hid (show z = firstF name (l[n].fFields ++ allF l (recs.drop (k + 1))) by rw [Hz.out, List.drop_eq_getElem_cons hlt, allF_cons, hn, fieldsZ_in hnl])
          rw [hn] at g0
          have hft := Hg.out.1.six l[n] (List.getElem_mem hnl)
          obtain ⟨b, o, a3, c3, rfl, hb1, e0, e1, e2, e3, e4, e5, hrf, _⟩ := type_cells R2.out hnl Hbel.out
          have Hrf := Lib.hid hrf
          clear hrf hn
          generalize l[n] = t at *
          obtain ⟨rest, hrest⟩ : ∃ r, allF l (recs.drop (k + 1)) = r := ⟨_, rfl⟩
          rw [hrest] at Hz2
          have Hre := Lib.hid hrest
          clear hrest
          go_wp2_with fail
          go_loopw [35] (fun i wr => ∃ j : Nat, i = .int .i64 j ∧ j ≤ t.fFields.length ∧ z = firstF name (t.fFields.drop j ++ rest) ∧ Below wo.heap.size wo wr) (fun i _ => t.fFields.length - (intOf i).toNat)
          case atStart => exact ⟨0, rfl, by omega, Hz2.out, Below.refl _ _⟩
          case round =>
            obtain ⟨j, rfl, hj, hzj, hbj⟩ := hrel
            have Hzj := Lib.hid hzj
            have Hbj := Lib.hid hbj
            have BJ := Lib.hid (Hbel.out.trans (hbj.mono Hbel.out.size))
            clear hzj
            by_cases hjlt : j < t.fFields.length
            · obtain ⟨bf, of, cs, rfl, _, hbf1, hcf, hat⟩ := Hrf.out j hjlt
              obtain rfl : cs = [.string t.fFields[j].fName, .int .i64 t.fFields[j].fMark, .int .i64 t.fFields[j].fType] := hat
              have hn3 : fieldS.n = 3 := rfl
              have k0 := (hbj.cell (p := ⟨bf, of + j * 3 + 0, none⟩) hbf1).trans (hcf 0 (by decide))
              have k1 := (hbj.cell (p := ⟨bf, of + j * 3 + 1, none⟩) hbf1).trans (hcf 1 (by decide))
              have k2 := (hbj.cell (p := ⟨bf, of + j * 3 + 2, none⟩) hbf1).trans (hcf 2 (by decide))
              simp at k0 k1 k2
              have Hst := Lib.hid (Hzj.out.trans (firstF_drop hjlt rest))
              have hsz := hbj.size
              clear hcf hbj
              generalize t.fFields[j] = f at *
              by_cases hnm : f.fName = name
              · have hq := bytes_same f.fName name true (by simp [hnm])
                have Hv2 := Lib.hid (show z = some f.fType by rw [Hst.out, if_pos hnm])
                clear hnm
                go_wp2_with fail
                go_ret2
                exact ⟨by rw [Hzz.out, Hv2.out]; rfl, (B2.out.trans (BJ.out.mono B2.out.size)).alloc (B2.out.trans (BJ.out.mono B2.out.size)).size _⟩
              · have hq := bytes_same f.fName name false (by simp [hnm])
                have Hnx := Lib.hid (show z = firstF name (t.fFields.drop (j + 1) ++ rest) by rw [Hst.out, if_neg hnm])
                clear hnm
                go_wp2_with fail
                exact ⟨⟨j + 1, by congr 1, by omega, Hnx.out, Hbj.out.alloc hsz _⟩, by simp [intOf]; omega⟩
            · have Hnx := Lib.hid (show z = firstF name (allF l (recs.drop (k + 1))) by rw [Hre.out, Hzj.out, List.drop_of_length_le (by omega)]; rfl)
              clear hbj
              go_wp2_with fail
              exact ⟨⟨k + 1, by congr 1, by omega, Hnx.out, BJ.out⟩, by simp [intOf]; omega⟩
        · have Hv2 := Lib.hid (show z = none by rw [Hz.out, List.drop_of_length_le (by omega)]; rfl)
          go_wp2_with fail
          go_ret2
          exact ⟨by rw [Hzz.out, Hv2.out]; rfl, B2.out.trans (Hbel.out.mono B2.out.size)⟩
    · have Hv := Lib.hid (fieldZ_out (name := name) (show ¬ fieldP l x from fun h => hx h.2))
      have h2 : (kindZ l x != 5) = true := bne_iff_ne.2 hx
      go_wp2_with fail
      go_ret2
      exact ⟨by rw [Hv.out]; rfl, B1.out⟩
  · have hq := goodB_false hg
    have Hv := Lib.hid (fieldZ_out (name := name) (show ¬ fieldP l x from fun h => hg h.1))
    clear hg
    generalize goodB l = q at *
    subst hq
    go_wp2_with fail
    go_ret2
    exact ⟨by rw [Hv.out]; rfl, B1.out⟩

set_option maxRecDepth 100000 in
set_option maxHeartbeats 8000000 in
theorem sl3Field (a : Option Addr) (c : Nat) (l : List TypeD) (x : Int) (name : ByteArray) (w : World) (hg : good l) (hx : kindZ l x = 5) (hr : Rows typeS Any w a l) :
    Calls Try.prog 57 #[.slice a l.length c, .int .i64 x, .string name] w fun e w' => e = .returned (.int .i64 ((firstF name (allF l (chain l x))).getD (-1))) ∧ Below w.heap.size w w' := by
  have Hr := Lib.hid hr
  have Hg := Lib.hid hg
  have Hx := Lib.hid hx
  have h24 := hg.1.most
  clear hr hg hx
  obtain ⟨z, hzz⟩ : ∃ z, firstF name (allF l (chain l x)) = z := ⟨_, rfl⟩
  have Hzz := Lib.hid hzz
  clear hzz
  go_enter Try.func57, Try.ntmps57
  go_wp2_with fail
  go_loopw [1] (fun i wr => ∃ y, i = .int .i64 y ∧ z = firstF name (allF l (chain l y)) ∧ (y = -1 ∨ kindZ l y = 5) ∧ Below w.heap.size w wr) (fun i _ => (chain l (intOf i)).length)
  case atStart => exact ⟨x, rfl, Hzz.out.symm, .inr Hx.out, Below.refl _ _⟩
  case round =>
    obtain ⟨y, rfl, hz, hy, hbel⟩ := hrel
    have Hz := Lib.hid hz
    have Hbel := Lib.hid hbel
    clear hz hbel
    obtain ⟨wo, hwo⟩ : ∃ x, x = wr := ⟨_, rfl⟩
    subst hwo
    rcases hy with rfl | h5
    · have hce := chain_end (l := l) (x := -1) (by rw [kindZ_out (by omega)]; decide)
      have Hv := Lib.hid (show z = none by rw [Hz.out, hce]; rfl)
      clear hce
      go_wp2_with fail
      go_ret
      exact ⟨by rw [Hzz.out, Hv.out]; rfl, Hbel.out⟩
    · have hcons := chain_cons Hg.out h5
      have hless := chain_less Hg.out h5
      obtain ⟨n, rfl, hnl, h5'⟩ := kind5 h5
      have hbz := baseZ_in hnl
      have Hnb := Lib.hid (Hg.out.1.base hnl h5')
      have Hz2 := Lib.hid (show z = firstF name (l[n].fFields ++ allF l (chain l (baseZ l (n : Int)))) by rw [Hz.out, hcons, allF_cons, fieldsZ_in hnl])
      have hft := Hg.out.1.six l[n] (List.getElem_mem hnl)
      obtain ⟨b, o, a3, c3, rfl, hb1, e0, e1, e2, e3, e4, e5, hrf, _⟩ := type_cells Hr.out hnl Hbel.out
      have Hrf := Lib.hid hrf
      rw [hbz] at hless Hz2
      have Hless := Lib.hid hless
      clear hrf hcons hless hbz
      generalize l[n] = t at *
      obtain ⟨rest, hrest⟩ : ∃ r, allF l (chain l t.fBase) = r := ⟨_, rfl⟩
      rw [hrest] at Hz2
      have Hre := Lib.hid hrest
      clear hrest
      go_wp2_with fail
      go_loopw [22] (fun i wr => ∃ j : Nat, i = .int .i64 j ∧ j ≤ t.fFields.length ∧ z = firstF name (t.fFields.drop j ++ rest) ∧ Below wo.heap.size wo wr) (fun i _ => t.fFields.length - (intOf i).toNat)
      case atStart => exact ⟨0, rfl, by omega, Hz2.out, Below.refl _ _⟩
      case round =>
        obtain ⟨j, rfl, hj, hzj, hbj⟩ := hrel
        have Hzj := Lib.hid hzj
        have Hbj := Lib.hid hbj
        have BJ := Lib.hid (Hbel.out.trans (hbj.mono Hbel.out.size))
        clear hzj
        by_cases hjlt : j < t.fFields.length
        · obtain ⟨bf, of, cs, rfl, _, hbf1, hcf, hat⟩ := Hrf.out j hjlt
          obtain rfl : cs = [.string t.fFields[j].fName, .int .i64 t.fFields[j].fMark, .int .i64 t.fFields[j].fType] := hat
          have hn3 : fieldS.n = 3 := rfl
          have k0 := (hbj.cell (p := ⟨bf, of + j * 3 + 0, none⟩) hbf1).trans (hcf 0 (by decide))
          have k1 := (hbj.cell (p := ⟨bf, of + j * 3 + 1, none⟩) hbf1).trans (hcf 1 (by decide))
          have k2 := (hbj.cell (p := ⟨bf, of + j * 3 + 2, none⟩) hbf1).trans (hcf 2 (by decide))
          simp at k0 k1 k2
          have Hst := Lib.hid (Hzj.out.trans (firstF_drop hjlt rest))
          have hsz := hbj.size
          clear hcf hbj
          generalize t.fFields[j] = f at *
          by_cases hnm : f.fName = name
          · have hq := bytes_same f.fName name true (by simp [hnm])
            have Hv2 := Lib.hid (show z = some f.fType by rw [Hst.out, if_pos hnm])
            clear hnm
            go_wp2_with fail
            go_ret
            exact ⟨by rw [Hzz.out, Hv2.out]; rfl, BJ.out.alloc BJ.out.size _⟩
          · have hq := bytes_same f.fName name false (by simp [hnm])
            have Hnx := Lib.hid (show z = firstF name (t.fFields.drop (j + 1) ++ rest) by rw [Hst.out, if_neg hnm])
            clear hnm
            go_wp2_with fail
            exact ⟨⟨j + 1, by congr 1, by omega, Hnx.out, Hbj.out.alloc hsz _⟩, by simp [intOf]; omega⟩
        · have Hnx := Lib.hid (show z = firstF name (allF l (chain l t.fBase)) by rw [Hre.out, Hzj.out, List.drop_of_length_le (by omega)]; rfl)
          have e2' := (hbj.cell (p := ⟨b, o + n * 6 + 2, none⟩) (Nat.lt_of_lt_of_le hb1 Hbel.out.size)).trans e2
          clear hbj
          go_wp2_with fail
          exact ⟨⟨t.fBase, rfl, Hnx.out, Hnb.out, BJ.out⟩, by simpa [intOf] using Hless.out⟩

set_option maxRecDepth 100000 in
set_option maxHeartbeats 8000000 in
theorem sFieldOf (a : Option Addr) (c : Nat) (l : List TypeD) (x : Int) (name : ByteArray) (w : World) (hl : l.length ≤ 1048576) (hc : l.length ≤ c) (hc2 : c ≤ maxLen) (hm : ∀ t ∈ l, t.mod) (hr : Rows typeS Any w a l) :
    Calls Try.prog 28 #[.slice a l.length c, .int .i64 x, .string name] w fun e w' => e = .returned (.tuple #[intV (fieldZ l x name), isV (fieldZ l x name)]) ∧ Below w.heap.size w w' := by
  have Hr := Lib.hid hr
  have Hm := Lib.hid hm
  clear hr hm
  go_enter Try.func28, Try.ntmps28
  go_wp2_with fail
  refine (sl3Good a c l w hl hc hc2 Hm.out Hr.out).mono ?_
  rintro e w1 ⟨rfl, hb1⟩
  have B1 := Lib.hid hb1
  have R1 := Lib.hid (Hr.out.below hb1)
  clear hb1
  by_cases hg : good l
  · have hq := goodB_true hg
    have Hg := Lib.hid hg
    clear hg
    generalize goodB l = q at *
    subst hq
    go_wp2_with fail
    refine (sl3Kind a c l x 5 5 w1 hl (by decide) (by decide) R1.out).mono ?_
    rintro e w2 ⟨rfl, rfl⟩
    by_cases hx : kindZ l x = 5
    · have Hx := Lib.hid hx
      have Hv := Lib.hid (fieldZ_in (name := name) (show fieldP l x from ⟨Hg.out, hx⟩))
      have Hpos := Lib.hid (fun z => field_pos (name := name) (z := z) Hg.out.1 (fun y (hy : y ∈ chain l x) => chain_kind hy))
      rw [decide_eq_true (show kindZ l x = 5 ∨ kindZ l x = 5 from .inl hx)]
      clear hx
      go_wp2_with fail
      refine (sl3Field a c l x name w1 Hg.out Hx.out R1.out).mono ?_
      rintro e w2 ⟨rfl, hb2⟩
      have B2 := Lib.hid (B1.out.trans (hb2.mono B1.out.size))
      have C2 := Lib.hid (fun W hW => sl3Field a c l x name W Hg.out Hx.out (R1.out.below (Below.trans hb2 hW)))
      clear hb2
      obtain ⟨z, hzz⟩ : ∃ z, firstF name (allF l (chain l x)) = z := ⟨_, rfl⟩
      rw [hzz]
      rw [hzz] at Hv C2 Hpos
      clear hzz
      cases z with
      | none =>
        rw [show (Option.getD (none : Option Int) (-1)) = -1 from rfl]
        go_wp2_with fail
        go_ret2
        exact ⟨by rw [Hv.out]; rfl, B2.out⟩
      | some z =>
        have hz := Hpos.out z rfl
        rw [show (Option.getD (some z) (-1)) = z from rfl]
        go_wp2_with fail
        refine (C2.out w2 (Below.refl _ _)).mono ?_
        rintro e w3 ⟨rfl, hb3⟩
        have B3 := Lib.hid (B2.out.trans (hb3.mono B2.out.size))
        clear hb3
        rw [show (Option.getD (some z) (-1)) = z from rfl]
        go_wp2_with fail
        go_ret2
        exact ⟨by rw [Hv.out]; rfl, B3.out⟩
    · have Hv := Lib.hid (fieldZ_out (name := name) (show ¬ fieldP l x from fun h => hx h.2))
      rw [decide_eq_false (show ¬ (kindZ l x = 5 ∨ kindZ l x = 5) from fun h => hx (h.elim id id))]
      go_wp2_with fail
      go_ret2
      exact ⟨by rw [Hv.out]; rfl, B1.out⟩
  · have hq := goodB_false hg
    have Hv := Lib.hid (fieldZ_out (name := name) (show ¬ fieldP l x from fun h => hg h.1))
    clear hg
    generalize goodB l = q at *
    subst hq
    go_wp2_with fail
    go_ret2
    exact ⟨by rw [Hv.out]; rfl, B1.out⟩
end Go.Proofs.Ytkbgkfmflieidaa
