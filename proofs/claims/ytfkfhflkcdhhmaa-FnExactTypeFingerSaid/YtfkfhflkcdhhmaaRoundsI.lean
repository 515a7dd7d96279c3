
/-
  What is proved: contracts of the program's roundPartOf and of the method sumBehind of its parts. No condition beside what each theorem states.
-/
import Derived.Test.YtfkfhflkcdhhmaaRoundsP
import Derived.Test.YtfkfhflkcdhhmaaOwnRow
namespace Go.Proofs.Ytfkfhflkcdhhmaa
open Go.ChangeShapes Go.WideShapes Go.ChangeAt Go.RowKit
set_option maxRecDepth 100000

def namesZ (t : TypeD) : List Int := t.fFields.map (fun f => textZ f.fName)
/-- A type with what it tells in each round. -/
def partAt (Q : Nat → Prop) (w : World) (cs : List Value) (t : TypeD) : Prop := ∃ (a3 : Option Addr) (c3 : Nat) (an : Option Addr) (cn : Nat), cs = [.int .i64 t.fKind, .int .i64 t.fLong, .int .i64 t.fBase, .slice a3 t.fFields.length c3, .string t.fOwner, .string t.fName, .int .i64 (firstZ t), .slice an t.fFields.length cn] ∧ Rows fieldS Q w a3 t.fFields ∧ Rows intS Q w an (namesZ t)
def partS : Shape TypeD where
  n := 8
  At := partAt
  len h := by obtain ⟨a3, c3, an, cn, rfl, h3⟩ := h; rfl
  keep h hb hs := by obtain ⟨a3, c3, an, cn, rfl, h3⟩ := h; exact ⟨a3, c3, an, cn, rfl, h3.1.keep hb hs, h3.2.keep hb hs⟩
  mono h hq := by obtain ⟨a3, c3, an, cn, rfl, h3⟩ := h; exact ⟨a3, c3, an, cn, rfl, h3.1.mono hq, h3.2.mono hq⟩
theorem box8 {w : World} {g : Nat} {t : TypeId} {c0 c1 c2 c3 c4 c5 c6 c7 : Value} (h : Box w g t #[c0, c1, c2, c3, c4, c5, c6, c7]) : w.cell? ⟨g, 0, none⟩ = some c0 ∧ w.cell? ⟨g, 1, none⟩ = some c1 ∧ w.cell? ⟨g, 2, none⟩ = some c2 ∧ w.cell? ⟨g, 3, none⟩ = some c3 ∧ w.cell? ⟨g, 4, none⟩ = some c4 ∧ w.cell? ⟨g, 5, none⟩ = some c5 ∧ w.cell? ⟨g, 6, none⟩ = some c6 ∧ w.cell? ⟨g, 7, none⟩ = some c7 := ⟨h.cell 0, h.cell 1, h.cell 2, h.cell 3, h.cell 4, h.cell 5, h.cell 6, h.cell 7⟩
theorem sizePart : (Try.prog.info? 141).map (·.size) = some 8 := by kernel_rfl

set_option maxHeartbeats 16000000 in
theorem iRoundPartOf (t : TypeD) (n : Nat) (a3 : Option Addr) (c3 : Nat) (w : World) (ht : RT n t) (hr : Rows fieldS Any w a3 t.fFields) :
    Calls Try.prog 117 #[.agg #[.int .i64 t.fKind, .int .i64 t.fLong, .int .i64 t.fBase, .slice a3 t.fFields.length c3, .string t.fOwner, .string t.fName]] w fun e w' => ∃ v, e = .returned (.agg #[.int .i64 t.fKind, .int .i64 t.fLong, .int .i64 t.fBase, .slice a3 t.fFields.length c3, .string t.fOwner, .string t.fName, .int .i64 (firstZ t), v]) ∧ OwnInts w' w.heap.size v (namesZ t) ∧ Below w.heap.size w w' := by
  have Hr := Lib.hid hr
  have Hz := Lib.hid (show firstZ t = mixL [t.fKind, t.fLong, textZ t.fOwner, textZ t.fName, (t.fFields.length : Int)] from rfl)
  have Hnz := Lib.hid (show namesZ t = t.fFields.map (fun f => textZ f.fName) from rfl)
  have HO := Lib.hid (fun W => iTextSum t.fOwner W ht.owner)
  have HN := Lib.hid (fun W => iTextSum t.fName W ht.name)
  have HF := Lib.hid ht.field
  have h6 := ht.six
  clear hr ht
  obtain ⟨F, hF⟩ : ∃ F, firstZ t = F := ⟨_, rfl⟩
  obtain ⟨N, hN⟩ : ∃ N, namesZ t = N := ⟨_, rfl⟩
  rw [hF] at Hz
  rw [hN] at Hnz
  rw [hF, hN]
  clear hF hN
  obtain ⟨kd, lg, bs, fs, ow, nm⟩ := t
  dsimp only at *
  have m1 : Hid True := Lib.hid trivial
  go_enter Try.func117, Try.ntmps117
  go_wp2_with fail
  have TB := Lib.hid (show Box (((w.alloc (.cells #[.int .i64 kd, .int .i64 lg, .int .i64 bs, .slice a3 fs.length c3, .string ow, .string nm] 32)).alloc (.cells #[.int .i64 0, .int .i64 0, .int .i64 0, .slice none 0 0, .string ⟨#[]⟩, .string ⟨#[]⟩, .int .i64 0, .slice none 0 0] 141)).alloc (.cells #[.int .i64 kd, .int .i64 lg, .int .i64 bs, .slice a3 fs.length c3, .string ow, .string nm, .int .i64 0, .slice none 0 0] 141)) w.heap.size 32 #[.int .i64 kd, .int .i64 lg, .int .i64 bs, .slice a3 fs.length c3, .string ow, .string nm] from ((Box.new w _ _).alloc _).alloc _)
  have ZB := Lib.hid (show Box (((w.alloc (.cells #[.int .i64 kd, .int .i64 lg, .int .i64 bs, .slice a3 fs.length c3, .string ow, .string nm] 32)).alloc (.cells #[.int .i64 0, .int .i64 0, .int .i64 0, .slice none 0 0, .string ⟨#[]⟩, .string ⟨#[]⟩, .int .i64 0, .slice none 0 0] 141)).alloc (.cells #[.int .i64 kd, .int .i64 lg, .int .i64 bs, .slice a3 fs.length c3, .string ow, .string nm, .int .i64 0, .slice none 0 0] 141)) (w.heap.size + 1) 141 #[.int .i64 0, .int .i64 0, .int .i64 0, .slice none 0 0, .string ⟨#[]⟩, .string ⟨#[]⟩, .int .i64 0, .slice none 0 0] from (Box.new' (g := w.heap.size + 1) (w.alloc _) _ _ (by simp)).alloc _)
  have PB := Lib.hid (show Box (((w.alloc (.cells #[.int .i64 kd, .int .i64 lg, .int .i64 bs, .slice a3 fs.length c3, .string ow, .string nm] 32)).alloc (.cells #[.int .i64 0, .int .i64 0, .int .i64 0, .slice none 0 0, .string ⟨#[]⟩, .string ⟨#[]⟩, .int .i64 0, .slice none 0 0] 141)).alloc (.cells #[.int .i64 kd, .int .i64 lg, .int .i64 bs, .slice a3 fs.length c3, .string ow, .string nm, .int .i64 0, .slice none 0 0] 141)) (w.heap.size + 1 + 1) 141 #[.int .i64 kd, .int .i64 lg, .int .i64 bs, .slice a3 fs.length c3, .string ow, .string nm, .int .i64 0, .slice none 0 0] from Box.new' (g := w.heap.size + 1 + 1) ((w.alloc _).alloc _) _ _ (by simp))
  have B0 := Lib.hid (show Below w.heap.size w (((w.alloc (.cells #[.int .i64 kd, .int .i64 lg, .int .i64 bs, .slice a3 fs.length c3, .string ow, .string nm] 32)).alloc (.cells #[.int .i64 0, .int .i64 0, .int .i64 0, .slice none 0 0, .string ⟨#[]⟩, .string ⟨#[]⟩, .int .i64 0, .slice none 0 0] 141)).alloc (.cells #[.int .i64 kd, .int .i64 lg, .int .i64 bs, .slice a3 fs.length c3, .string ow, .string nm, .int .i64 0, .slice none 0 0] 141)) from (((Below.refl w.heap.size w).alloc (Nat.le_refl _) _).alloc (by simp) _).alloc (by simp; omega) _)
  have hq0 : w.heap.size + 3 ≤ (((w.alloc (.cells #[.int .i64 kd, .int .i64 lg, .int .i64 bs, .slice a3 fs.length c3, .string ow, .string nm] 32)).alloc (.cells #[.int .i64 0, .int .i64 0, .int .i64 0, .slice none 0 0, .string ⟨#[]⟩, .string ⟨#[]⟩, .int .i64 0, .slice none 0 0] 141)).alloc (.cells #[.int .i64 kd, .int .i64 lg, .int .i64 bs, .slice a3 fs.length c3, .string ow, .string nm, .int .i64 0, .slice none 0 0] 141)).heap.size := by simp
  generalize ((w.alloc (.cells #[.int .i64 kd, .int .i64 lg, .int .i64 bs, .slice a3 fs.length c3, .string ow, .string nm] 32)).alloc (.cells #[.int .i64 0, .int .i64 0, .int .i64 0, .slice none 0 0, .string ⟨#[]⟩, .string ⟨#[]⟩, .int .i64 0, .slice none 0 0] 141)).alloc (.cells #[.int .i64 kd, .int .i64 lg, .int .i64 bs, .slice a3 fs.length c3, .string ow, .string nm, .int .i64 0, .slice none 0 0] 141) = wq at *
  have hbq := B0.out.size
  go_region_held3 (fun w' => w'.cell? ⟨w.heap.size, 0, none⟩ = some (.int .i64 kd) ∧ w'.cell? ⟨w.heap.size, 1, none⟩ = some (.int .i64 lg) ∧ w'.cell? ⟨w.heap.size, 2, none⟩ = some (.int .i64 bs) ∧ w'.cell? ⟨w.heap.size, 3, none⟩ = some (.slice a3 fs.length c3) ∧ w'.cell? ⟨w.heap.size, 4, none⟩ = some (.string ow) ∧ w'.cell? ⟨w.heap.size, 5, none⟩ = some (.string nm))
    (first
      | exact box6 ((TB2.out.alloc _).only ((Only.refl (w.heap.size + 1 + 1) _).set 6 _) (by omega))
      | exact box6 (TB2.out.alloc _)
      | exact box6 TB2.out
      | exact box6 TB1.out
      | exact box6 TB.out
      | go_keep)
    (first
      | (go_at_call 149; have m2 := m1; clear m1; refine (HO.out _).mono ?_; rintro e wa ⟨rfl, hba⟩; have hbd : Below wq.heap.size wq wa := ⟨hba.os, hba.tape, hba.output, hba.size, hba.block⟩; have TB1 := Lib.hid (TB.out.below hbd TB.out.lt); have ZB1 := Lib.hid (ZB.out.below hbd ZB.out.lt); have PB1 := Lib.hid (PB.out.below hbd PB.out.lt); have B1 := Lib.hid (B0.out.trans (hbd.mono hbq)); have hq1 := Nat.le_trans hq0 hbd.size; have hb1 := B1.out.size; clear hba hbd)
      | (go_at_call 149; refine (HN.out _).mono ?_; rintro e wb ⟨rfl, hbb⟩; have TB2 := Lib.hid (TB1.out.below hbb TB1.out.lt); have ZB2 := Lib.hid (ZB1.out.below hbb ZB1.out.lt); have PB2 := Lib.hid (PB1.out.below hbb PB1.out.lt); have B2 := Lib.hid (B1.out.trans (hbb.mono hb1)); have hq2 := Nat.le_trans hq1 hbb.size; have hb2 := B2.out.size; have pc := fun ob => (PB2.out.alloc ob).cell 6; have pf := fun ob => (PB2.out.alloc ob).free 6; simp at pc; clear hbb)
      | (go_at_call 148; refine (iMixBox _ _ _ [kd, lg, textZ ow, textZ nm, (fs.length : Int)] _ (Box.new _ _ _) rfl (by simp)).mono ?_; rintro e wc ⟨rfl, rfl⟩; rw [← Hz.out])
      | fail)
  have PB4 := Lib.hid (show Box _ _ _ #[.int .i64 kd, .int .i64 lg, .int .i64 bs, .slice a3 fs.length c3, .string ow, .string nm, .int .i64 F, .slice none 0 0] from (PB2.out.alloc (.cells #[.int .i64 kd, .int .i64 lg, .int .i64 (textZ ow), .int .i64 (textZ nm), .int .i64 (fs.length : Int)] 3)).set 6 (.int .i64 F))
  have ZB4 := Lib.hid ((ZB2.out.alloc (.cells #[.int .i64 kd, .int .i64 lg, .int .i64 (textZ ow), .int .i64 (textZ nm), .int .i64 (fs.length : Int)] 3)).only ((Only.refl (w.heap.size + 1 + 1) _).set 6 (.int .i64 F)) (by omega))
  have TB4 := Lib.hid ((TB2.out.alloc (.cells #[.int .i64 kd, .int .i64 lg, .int .i64 (textZ ow), .int .i64 (textZ nm), .int .i64 (fs.length : Int)] 3)).only ((Only.refl (w.heap.size + 1 + 1) _).set 6 (.int .i64 F)) (by omega))
  have B4 := Lib.hid ((B2.out.alloc hb2 (.cells #[.int .i64 kd, .int .i64 lg, .int .i64 (textZ ow), .int .i64 (textZ nm), .int .i64 (fs.length : Int)] 3)).setCell (p := ⟨w.heap.size + 1 + 1, 6, none⟩) (by show w.heap.size ≤ w.heap.size + 1 + 1; omega) (.int .i64 F))
  have hq4 : w.heap.size + 3 ≤ ((wb.alloc (.cells #[.int .i64 kd, .int .i64 lg, .int .i64 (textZ ow), .int .i64 (textZ nm), .int .i64 (fs.length : Int)] 3)).setCell ⟨w.heap.size + 1 + 1, 6, none⟩ (.int .i64 F)).heap.size := by simp [World.setCell]; omega
  generalize ((wb.alloc (.cells #[.int .i64 kd, .int .i64 lg, .int .i64 (textZ ow), .int .i64 (textZ nm), .int .i64 (fs.length : Int)] 3)).setCell ⟨w.heap.size + 1 + 1, 6, none⟩ (.int .i64 F)) = w4 at *
  clear TB TB1 TB2 ZB ZB1 ZB2 PB PB1 PB2 B0 B1 B2 pc pf HO HN
  have tc : _ = some (Value.slice a3 fs.length c3) := TB4.out.cell 3
  go_wp2_with fail
  clear tc
  go_loopw [27] (fun i wr => ∃ (k : Nat) (v : Value), i = .int .i64 k ∧ k ≤ fs.length ∧ Box wr (w.heap.size + 1 + 1) 141 #[.int .i64 kd, .int .i64 lg, .int .i64 bs, .slice a3 fs.length c3, .string ow, .string nm, .int .i64 F, v] ∧ OwnInts wr (w.heap.size + 3) v (N.take k) ∧ Box wr (w.heap.size + 1) 141 #[.int .i64 0, .int .i64 0, .int .i64 0, .slice none 0 0, .string ⟨#[]⟩, .string ⟨#[]⟩, .int .i64 0, .slice none 0 0] ∧ Below w.heap.size w wr ∧ w.heap.size + 3 ≤ wr.heap.size) (fun i _ => fs.length - (intOf i).toNat)
  case atStart => exact ⟨0, .slice none 0 0, rfl, by omega, PB4.out, OwnInts.nil, ZB4.out, B4.out, hq4⟩
  case round =>
    obtain ⟨wp, hwp⟩ : ∃ y, y = wr := ⟨_, rfl⟩
    subst hwp
    obtain ⟨k, v, rfl, hk, hpb, hown, hzb, hbel, hsz⟩ := hrel
    have hvl := World.ownsRow.lt hown
    have PB := Lib.hid hpb
    have ZB := Lib.hid hzb
    have OV := Lib.hid hown
    have B0 := Lib.hid hbel
    clear hpb hown hzb hbel
    by_cases hlt : k < fs.length
    · obtain ⟨b, o, cs, rfl, _, hb1, hc1, hat⟩ := Hr.out k hlt
      obtain rfl : cs = [.string fs[k].fName, .int .i64 fs[k].fMark, .int .i64 fs[k].fType] := hat
      have e0 := (B0.out.cell (p := ⟨b, o + k * 3 + 0, none⟩) hb1).trans (hc1 0 (by decide))
      have e1 := (B0.out.cell (p := ⟨b, o + k * 3 + 1, none⟩) hb1).trans (hc1 1 (by decide))
      have e2 := (B0.out.cell (p := ⟨b, o + k * 3 + 2, none⟩) hb1).trans (hc1 2 (by decide))
      simp at e0 e1 e2
      have HN := Lib.hid (fun W => iTextSum fs[k].fName W (HF.out k hlt).1)
      have Hnx := Lib.hid (show N.take (k + 1) = N.take k ++ [textZ fs[k].fName] by rw [Hnz.out]; exact map_next _ hlt)
      have hNk : (N.take k).length ≤ 6 := by rw [List.length_take]; omega
      clear hc1
      generalize fs[k] = f at *
      go_wp2_with fail
      have PB0 := Lib.hid (PB.out.alloc (.cells #[.string f.fName, .int .i64 f.fMark, .int .i64 f.fType] 34))
      have ZB0 := Lib.hid (ZB.out.alloc (.cells #[.string f.fName, .int .i64 f.fMark, .int .i64 f.fType] 34))
      have OV0 := Lib.hid (OV.out.alloc (.cells #[.string f.fName, .int .i64 f.fMark, .int .i64 f.fType] 34))
      have B1 := Lib.hid (B0.out.alloc B0.out.size (.cells #[.string f.fName, .int .i64 f.fMark, .int .i64 f.fType] 34))
      have q0 : (wp.alloc (.cells #[.string f.fName, .int .i64 f.fMark, .int .i64 f.fType] 34)).cell? ⟨wp.heap.size, 0, none⟩ = some (.string f.fName) := (Box.new wp 34 _).cell 0
      have hq0 : w.heap.size + 3 ≤ (wp.alloc (.cells #[.string f.fName, .int .i64 f.fMark, .int .i64 f.fType] 34)).heap.size := by simp; omega
      have hgq : wp.heap.size < (wp.alloc (.cells #[.string f.fName, .int .i64 f.fMark, .int .i64 f.fType] 34)).heap.size := by simp
      generalize wp.alloc (.cells #[.string f.fName, .int .i64 f.fMark, .int .i64 f.fType] 34) = wq at *
      have hbq := B1.out.size
      have p0 : _ = some v := PB0.out.cell 7
      clear e0 e1 e2 PB ZB OV B0
      go_region_law (first
        | (go_simp; go_at_call 149; refine (HN.out _).mono ?_; rintro e wa ⟨rfl, hba⟩; have hbd : Below wq.heap.size wq wa := ⟨hba.os, hba.tape, hba.output, hba.size, hba.block⟩; have PB1 := Lib.hid (PB0.out.below hbd PB0.out.lt); have ZB1 := Lib.hid (ZB0.out.below hbd ZB0.out.lt); have OV1 := Lib.hid (OV0.out.below hbd); have B2 := Lib.hid (B1.out.trans (hbd.mono hbq)); have hq1 := Nat.le_trans hq0 hbd.size; have hb2 := B2.out.size; have p1 : _ = some v := PB1.out.cell 7; have p2 : ∀ ob, (wa.alloc ob).cell? ⟨w.heap.size + 1 + 1, 7, none⟩ = some v := fun ob => (PB1.out.alloc ob).cell 7; clear hba hbd)
        | (refine step_pushInts rfl _ _ rfl (w.heap.size + 3) _ _ (N.take k) rfl (OV1.out.alloc _) [textZ f.fName] _ _ _ rfl rfl (Box.new' _ _ _ rfl) (by simp) (by first | omega | (simp; done) | (simp; omega)) (by first | omega | (simp; done) | (simp; omega)) ?_; intro v' w4 hown4 hg4 _; obtain ⟨va, vn, vc, rfl⟩ := hown4.form; have PB4 := Lib.hid (box_grown (PB1.out.alloc _) hg4 (fun k hk => Nat.ne_of_gt (hvl k hk).1)); have ZB4 := Lib.hid (box_grown (ZB1.out.alloc _) hg4 (fun k hk => Nat.ne_of_gt (Nat.lt_of_succ_lt (hvl k hk).1))); have O4 := Lib.hid hown4; have B4 := Lib.hid ((B2.out.alloc hb2 _).grown hg4 (by first | omega | (simp; done) | (simp; omega)) (fun k hk => Nat.le_trans (Nat.le_add_right _ 3) (hvl k hk).1)); have hq4 : w.heap.size + 3 ≤ w4.heap.size := Nat.le_trans (Nat.le_trans hq1 (Nat.le_of_lt (by simp))) hg4.size; have pc : _ = some v := PB4.out.cell 7; have pf := PB4.out.free 7; clear hown4 hg4))
      all_goals
        have PB5 := Lib.hid (PB4.out.set 7 (.slice va vn vc))
        have ZB5 := Lib.hid (ZB4.out.only ((Only.refl (w.heap.size + 1 + 1) _).set 7 (.slice va vn vc)) (by omega))
        have B5 := Lib.hid (B4.out.setCell (p := ⟨w.heap.size + 1 + 1, 7, none⟩) (by show w.heap.size ≤ w.heap.size + 1 + 1; omega) (.slice va vn vc))
        have O5 := Lib.hid (show OwnInts (w4.setCell ⟨w.heap.size + 1 + 1, 7, none⟩ (.slice va vn vc)) (w.heap.size + 3) (.slice va vn vc) (N.take (k + 1)) by
          rw [Hnx.out]
          refine O4.out.keep (fun q hq => ?_)
          have h3 := (World.ownsRow.lt O4.out q hq).1
          exact Below.heap_setCell w4 ⟨w.heap.size + 1 + 1, 7, none⟩ _ q (fun e => by have : q = w.heap.size + 1 + 1 := e; omega))
        have hq5 : w.heap.size + 3 ≤ (w4.setCell ⟨w.heap.size + 1 + 1, 7, none⟩ (.slice va vn vc)).heap.size := by simp [World.setCell]; omega
        clear PB0 PB1 PB4 ZB0 ZB1 ZB4 OV0 OV1 O4 B1 B2 B4 p0 p1 p2 pc pf
        go_wp2_with fail
        exact ⟨⟨k + 1, _, by congr 1, by omega, PB5.out, O5.out, ZB5.out, B5.out, hq5⟩, by simp [intOf]; omega⟩
    · have hall : N.take k = N := by rw [Hnz.out]; exact map_all _ hlt
      have OV2 := Lib.hid (hall ▸ OV.out)
      clear hall OV
      obtain ⟨va, vn, vc, rfl⟩ := OV2.out.form
      obtain ⟨c0, c1, c2, c3', c4, c5, c6, c7⟩ := box8 PB.out
      obtain ⟨z0, z1, z2, z3, z4, z5, z6, z7⟩ := box8 ZB.out
      have zf := ZB.out.free
      go_wp2_with fail
      refine bodyPost_ret (results_one rfl Try.underlying141 rfl _ _ (w.heap.size + 1) #[.int .i64 kd, .int .i64 lg, .int .i64 bs, .slice a3 fs.length c3, .string ow, .string nm, .int .i64 F, .slice va vn vc] rfl 141 ?qbox 8 sizePart rfl) rfl ?_
      case qbox => exact ((((((((ZB.out.set 0 _).set 1 _).set 2 _).set 3 _).set 4 _).set 5 _).set 6 _).set 7 _)
      have hb := B0.out
      have hon := (((((((((Only.refl (w.heap.size + 1) wp).set 0 (.int .i64 kd)).set 1 (.int .i64 lg)).set 2 (.int .i64 bs)).set 3 (.slice a3 fs.length c3)).set 4 (.string ow)).set 5 (.string nm)).set 6 (.int .i64 F)).set 7 (.slice va vn vc))
      exact ⟨_, rfl, (OV2.out.keep (fun q hq => hon.block q (World.ownsRow.lt OV2.out q hq).2 (fun e => by have h3 := (World.ownsRow.lt OV2.out q hq).1; injection e with e; omega))).lower (by omega), ((((((((hb.setCell (by show w.heap.size ≤ w.heap.size + 1; omega) (.int .i64 kd)).setCell (by show w.heap.size ≤ w.heap.size + 1; omega) (.int .i64 lg)).setCell (by show w.heap.size ≤ w.heap.size + 1; omega) (.int .i64 bs)).setCell (by show w.heap.size ≤ w.heap.size + 1; omega) (.slice a3 fs.length c3)).setCell (by show w.heap.size ≤ w.heap.size + 1; omega) (.string ow)).setCell (by show w.heap.size ≤ w.heap.size + 1; omega) (.string nm)).setCell (by show w.heap.size ≤ w.heap.size + 1; omega) (.int .i64 F)).setCell (by show w.heap.size ≤ w.heap.size + 1; omega) (.slice va vn vc))⟩

theorem nums_rows {w : World} {a : Option Addr} {l : List Int} (h : Nums w a l) : Rows intS Any w a l := fun i hi => by
  obtain ⟨b, o, e, h1, h2⟩ := h i hi
  refine ⟨b, o, [.int .i64 l[i]], e, trivial, h1, fun j hj => ?_, rfl⟩
  have hn : intS.n = 1 := rfl
  obtain rfl : j = 0 := by omega
  rw [hn, Nat.mul_one, Nat.add_zero, h2]
  rfl
theorem rows_nums {Q : Nat → Prop} {w : World} {a : Option Addr} {l : List Int} (h : Rows intS Q w a l) : Nums w a l := fun i hi => by
  obtain ⟨b, o, cs, e, _, h1, h2, hat⟩ := h i hi
  obtain rfl : cs = [.int .i64 l[i]] := hat
  have hn : intS.n = 1 := rfl
  have := h2 0 (by omega)
  rw [hn, Nat.mul_one, Nat.add_zero] at this
  exact ⟨b, o, e, h1, this⟩
end Go.Proofs.Ytfkfhflkcdhhmaa
