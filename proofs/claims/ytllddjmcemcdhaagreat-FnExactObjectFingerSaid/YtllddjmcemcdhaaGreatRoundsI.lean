
/-
  What is proved: contracts of the program's roundPartOf and of the method sumBehind of its parts; the contract of the program's method sumBehind; the contract of the program's sumsBehind. No condition beside what each theorem states.
-/
import Derived.Test.YtllddjmcemcdhaaGreatRoundsP
import Derived.Test.YtllddjmcemcdhaaGreatMark
namespace Go.Proofs.YtllddjmcemcdhaaGreat
open Go.ChangeShapes Go.WideShapes Go.ChangeAt Go.RowKit
set_option maxRecDepth 100000

def namesZ (t : TypeD) : List Int := t.fFields.map (fun f => textZ f.fName)
/-- A type with what it tells in each round. -/
def partAt (Q : Nat → Prop) (w : World) (cs : List Value) (t : TypeD) : Prop := ∃ (a3 : Option Addr) (c3 : Nat) (an : Option Addr) (cn : Nat), cs = [.int .i64 t.fKind, .int .i64 t.fLong, .int .i64 t.fBase, .slice a3 t.fFields.length c3, .string t.fOwner, .string t.fName, .int .i64 (firstZ t), .slice an t.fFields.length cn] ∧ Rows fieldS Q w a3 t.fFields ∧ Rows intS Q w an (namesZ t)
def partS : Shape TypeD where
  n := 8
  At := partAt
  len h := by obtain ⟨a3, c3, an, cn, rfl, h3⟩ := h; rfl
  keep h hb hs := by obtain ⟨a3, c3, an, cn, rfl, h3⟩ := h; exact ⟨a3, c3, an, cn, rfl, h3.1.keep hb hs, h3.2.keep hb hs⟩
  mono h hq := by obtain ⟨a3, c3, an, cn, rfl, h3⟩ := h; exact ⟨a3, c3, an, cn, rfl, h3.1.mono hq, h3.2.mono hq⟩
theorem box8 {w : World} {g : Nat} {t : TypeId} {c0 c1 c2 c3 c4 c5 c6 c7 : Value} (h : Box w g t #[c0, c1, c2, c3, c4, c5, c6, c7]) : w.cell? ⟨g, 0, none⟩ = some c0 ∧ w.cell? ⟨g, 1, none⟩ = some c1 ∧ w.cell? ⟨g, 2, none⟩ = some c2 ∧ w.cell? ⟨g, 3, none⟩ = some c3 ∧ w.cell? ⟨g, 4, none⟩ = some c4 ∧ w.cell? ⟨g, 5, none⟩ = some c5 ∧ w.cell? ⟨g, 6, none⟩ = some c6 ∧ w.cell? ⟨g, 7, none⟩ = some c7 := ⟨h.cell 0, h.cell 1, h.cell 2, h.cell 3, h.cell 4, h.cell 5, h.cell 6, h.cell 7⟩
theorem sizePart : (Tryz.prog.info? 173).map (·.size) = some 8 := by kernel_rfl

set_option maxHeartbeats 16000000 in
theorem iRoundPartOf (t : TypeD) (n : Nat) (a3 : Option Addr) (c3 : Nat) (w : World) (ht : RT n t) (hr : Rows fieldS Any w a3 t.fFields) :
    Calls Tryz.prog 110 #[.agg #[.int .i64 t.fKind, .int .i64 t.fLong, .int .i64 t.fBase, .slice a3 t.fFields.length c3, .string t.fOwner, .string t.fName]] w fun e w' => ∃ v, e = .returned (.agg #[.int .i64 t.fKind, .int .i64 t.fLong, .int .i64 t.fBase, .slice a3 t.fFields.length c3, .string t.fOwner, .string t.fName, .int .i64 (firstZ t), v]) ∧ OwnInts w' w.heap.size v (namesZ t) ∧ Below w.heap.size w w' := by
  have Hr := Lib.hid hr
  have Hz := Lib.hid (show firstZ t = mixL [t.fKind, t.fLong, textZ t.fOwner, textZ t.fName, (t.fFields.length : Int)] from rfl)
  have Hnz := Lib.hid (show namesZ t = t.fFields.map (fun f => textZ f.fName) from rfl)
  have HO := Lib.hid (fun W => iTextSum t.fOwner W ht.owner)
  have HN := Lib.hid (fun W => iTextSum t.fName W ht.name)
  have HF := Lib.hid ht.field
  have h6 := ht.six
  clear hr ht
  obtain ⟨F, hF⟩ : ∃ F, firstZ t = F := ⟨_, rfl⟩
  obtain ⟨N, hN⟩ : ∃ N, namesZ t = N := ⟨_, rfl⟩
  rw [hF] at Hz
  rw [hN] at Hnz
  rw [hF, hN]
  clear hF hN
  obtain ⟨kd, lg, bs, fs, ow, nm⟩ := t
  dsimp only at *
  have m1 : Hid True := Lib.hid trivial
  go_enter Tryz.func110, Tryz.ntmps110
  go_wp2_with fail
  have TB := Lib.hid (show Box (((w.alloc (.cells #[.int .i64 kd, .int .i64 lg, .int .i64 bs, .slice a3 fs.length c3, .string ow, .string nm] 110)).alloc (.cells #[.int .i64 0, .int .i64 0, .int .i64 0, .slice none 0 0, .string ⟨#[]⟩, .string ⟨#[]⟩, .int .i64 0, .slice none 0 0] 173)).alloc (.cells #[.int .i64 kd, .int .i64 lg, .int .i64 bs, .slice a3 fs.length c3, .string ow, .string nm, .int .i64 0, .slice none 0 0] 173)) w.heap.size 110 #[.int .i64 kd, .int .i64 lg, .int .i64 bs, .slice a3 fs.length c3, .string ow, .string nm] from ((Box.new w _ _).alloc _).alloc _)
  have ZB := Lib.hid (show Box (((w.alloc (.cells #[.int .i64 kd, .int .i64 lg, .int .i64 bs, .slice a3 fs.length c3, .string ow, .string nm] 110)).alloc (.cells #[.int .i64 0, .int .i64 0, .int .i64 0, .slice none 0 0, .string ⟨#[]⟩, .string ⟨#[]⟩, .int .i64 0, .slice none 0 0] 173)).alloc (.cells #[.int .i64 kd, .int .i64 lg, .int .i64 bs, .slice a3 fs.length c3, .string ow, .string nm, .int .i64 0, .slice none 0 0] 173)) (w.heap.size + 1) 173 #[.int .i64 0, .int .i64 0, .int .i64 0, .slice none 0 0, .string ⟨#[]⟩, .string ⟨#[]⟩, .int .i64 0, .slice none 0 0] from (Box.new' (g := w.heap.size + 1) (w.alloc _) _ _ (by simp)).alloc _)
  have PB := Lib.hid (show Box (((w.alloc (.cells #[.int .i64 kd, .int .i64 lg, .int .i64 bs, .slice a3 fs.length c3, .string ow, .string nm] 110)).alloc (.cells #[.int .i64 0, .int .i64 0, .int .i64 0, .slice none 0 0, .string ⟨#[]⟩, .string ⟨#[]⟩, .int .i64 0, .slice none 0 0] 173)).alloc (.cells #[.int .i64 kd, .int .i64 lg, .int .i64 bs, .slice a3 fs.length c3, .string ow, .string nm, .int .i64 0, .slice none 0 0] 173)) (w.heap.size + 1 + 1) 173 #[.int .i64 kd, .int .i64 lg, .int .i64 bs, .slice a3 fs.length c3, .string ow, .string nm, .int .i64 0, .slice none 0 0] from Box.new' (g := w.heap.size + 1 + 1) ((w.alloc _).alloc _) _ _ (by simp))
  have B0 := Lib.hid (show Below w.heap.size w (((w.alloc (.cells #[.int .i64 kd, .int .i64 lg, .int .i64 bs, .slice a3 fs.length c3, .string ow, .string nm] 110)).alloc (.cells #[.int .i64 0, .int .i64 0, .int .i64 0, .slice none 0 0, .string ⟨#[]⟩, .string ⟨#[]⟩, .int .i64 0, .slice none 0 0] 173)).alloc (.cells #[.int .i64 kd, .int .i64 lg, .int .i64 bs, .slice a3 fs.length c3, .string ow, .string nm, .int .i64 0, .slice none 0 0] 173)) from (((Below.refl w.heap.size w).alloc (Nat.le_refl _) _).alloc (by simp) _).alloc (by simp; omega) _)
  have hq0 : w.heap.size + 3 ≤ (((w.alloc (.cells #[.int .i64 kd, .int .i64 lg, .int .i64 bs, .slice a3 fs.length c3, .string ow, .string nm] 110)).alloc (.cells #[.int .i64 0, .int .i64 0, .int .i64 0, .slice none 0 0, .string ⟨#[]⟩, .string ⟨#[]⟩, .int .i64 0, .slice none 0 0] 173)).alloc (.cells #[.int .i64 kd, .int .i64 lg, .int .i64 bs, .slice a3 fs.length c3, .string ow, .string nm, .int .i64 0, .slice none 0 0] 173)).heap.size := by simp
  generalize ((w.alloc (.cells #[.int .i64 kd, .int .i64 lg, .int .i64 bs, .slice a3 fs.length c3, .string ow, .string nm] 110)).alloc (.cells #[.int .i64 0, .int .i64 0, .int .i64 0, .slice none 0 0, .string ⟨#[]⟩, .string ⟨#[]⟩, .int .i64 0, .slice none 0 0] 173)).alloc (.cells #[.int .i64 kd, .int .i64 lg, .int .i64 bs, .slice a3 fs.length c3, .string ow, .string nm, .int .i64 0, .slice none 0 0] 173) = wq at *
  have hbq := B0.out.size
  go_region_held3 (fun w' => w'.cell? ⟨w.heap.size, 0, none⟩ = some (.int .i64 kd) ∧ w'.cell? ⟨w.heap.size, 1, none⟩ = some (.int .i64 lg) ∧ w'.cell? ⟨w.heap.size, 2, none⟩ = some (.int .i64 bs) ∧ w'.cell? ⟨w.heap.size, 3, none⟩ = some (.slice a3 fs.length c3) ∧ w'.cell? ⟨w.heap.size, 4, none⟩ = some (.string ow) ∧ w'.cell? ⟨w.heap.size, 5, none⟩ = some (.string nm))
    (first
      | exact box6 ((TB2.out.alloc _).only ((Only.refl (w.heap.size + 1 + 1) _).set 6 _) (by omega))
      | exact box6 (TB2.out.alloc _)
      | exact box6 TB2.out
      | exact box6 TB1.out
      | exact box6 TB.out
      | go_keep)
    (first
      | (go_at_call 55; have m2 := m1; clear m1; refine (HO.out _).mono ?_; rintro e wa ⟨rfl, hba⟩; have hbd : Below wq.heap.size wq wa := ⟨hba.os, hba.tape, hba.output, hba.size, hba.block⟩; have TB1 := Lib.hid (TB.out.below hbd TB.out.lt); have ZB1 := Lib.hid (ZB.out.below hbd ZB.out.lt); have PB1 := Lib.hid (PB.out.below hbd PB.out.lt); have B1 := Lib.hid (B0.out.trans (hbd.mono hbq)); have hq1 := Nat.le_trans hq0 hbd.size; have hb1 := B1.out.size; clear hba hbd)
      | (go_at_call 55; refine (HN.out _).mono ?_; rintro e wb ⟨rfl, hbb⟩; have TB2 := Lib.hid (TB1.out.below hbb TB1.out.lt); have ZB2 := Lib.hid (ZB1.out.below hbb ZB1.out.lt); have PB2 := Lib.hid (PB1.out.below hbb PB1.out.lt); have B2 := Lib.hid (B1.out.trans (hbb.mono hb1)); have hq2 := Nat.le_trans hq1 hbb.size; have hb2 := B2.out.size; have pc := fun ob => (PB2.out.alloc ob).cell 6; have pf := fun ob => (PB2.out.alloc ob).free 6; simp at pc; clear hbb)
      | (go_at_call 58; refine (iMixBox _ _ _ [kd, lg, textZ ow, textZ nm, (fs.length : Int)] _ (Box.new _ _ _) rfl (by simp)).mono ?_; rintro e wc ⟨rfl, rfl⟩; rw [← Hz.out])
      | fail)
  have PB4 := Lib.hid (show Box _ _ _ #[.int .i64 kd, .int .i64 lg, .int .i64 bs, .slice a3 fs.length c3, .string ow, .string nm, .int .i64 F, .slice none 0 0] from (PB2.out.alloc (.cells #[.int .i64 kd, .int .i64 lg, .int .i64 (textZ ow), .int .i64 (textZ nm), .int .i64 (fs.length : Int)] 3)).set 6 (.int .i64 F))
  have ZB4 := Lib.hid ((ZB2.out.alloc (.cells #[.int .i64 kd, .int .i64 lg, .int .i64 (textZ ow), .int .i64 (textZ nm), .int .i64 (fs.length : Int)] 3)).only ((Only.refl (w.heap.size + 1 + 1) _).set 6 (.int .i64 F)) (by omega))
  have TB4 := Lib.hid ((TB2.out.alloc (.cells #[.int .i64 kd, .int .i64 lg, .int .i64 (textZ ow), .int .i64 (textZ nm), .int .i64 (fs.length : Int)] 3)).only ((Only.refl (w.heap.size + 1 + 1) _).set 6 (.int .i64 F)) (by omega))
  have B4 := Lib.hid ((B2.out.alloc hb2 (.cells #[.int .i64 kd, .int .i64 lg, .int .i64 (textZ ow), .int .i64 (textZ nm), .int .i64 (fs.length : Int)] 3)).setCell (p := ⟨w.heap.size + 1 + 1, 6, none⟩) (by show w.heap.size ≤ w.heap.size + 1 + 1; omega) (.int .i64 F))
  have hq4 : w.heap.size + 3 ≤ ((wb.alloc (.cells #[.int .i64 kd, .int .i64 lg, .int .i64 (textZ ow), .int .i64 (textZ nm), .int .i64 (fs.length : Int)] 3)).setCell ⟨w.heap.size + 1 + 1, 6, none⟩ (.int .i64 F)).heap.size := by simp [World.setCell]; omega
  generalize ((wb.alloc (.cells #[.int .i64 kd, .int .i64 lg, .int .i64 (textZ ow), .int .i64 (textZ nm), .int .i64 (fs.length : Int)] 3)).setCell ⟨w.heap.size + 1 + 1, 6, none⟩ (.int .i64 F)) = w4 at *
  clear TB TB1 TB2 ZB ZB1 ZB2 PB PB1 PB2 B0 B1 B2 pc pf HO HN
  have tc : _ = some (Value.slice a3 fs.length c3) := TB4.out.cell 3
  go_wp2_with fail
  clear tc
  go_loopw [27] (fun i wr => ∃ (k : Nat) (v : Value), i = .int .i64 k ∧ k ≤ fs.length ∧ Box wr (w.heap.size + 1 + 1) 173 #[.int .i64 kd, .int .i64 lg, .int .i64 bs, .slice a3 fs.length c3, .string ow, .string nm, .int .i64 F, v] ∧ OwnInts wr (w.heap.size + 3) v (N.take k) ∧ Box wr (w.heap.size + 1) 173 #[.int .i64 0, .int .i64 0, .int .i64 0, .slice none 0 0, .string ⟨#[]⟩, .string ⟨#[]⟩, .int .i64 0, .slice none 0 0] ∧ Below w.heap.size w wr ∧ w.heap.size + 3 ≤ wr.heap.size) (fun i _ => fs.length - (intOf i).toNat)
  case atStart => exact ⟨0, .slice none 0 0, rfl, by omega, PB4.out, OwnInts.nil, ZB4.out, B4.out, hq4⟩
  case round =>
    obtain ⟨wp, hwp⟩ : ∃ y, y = wr := ⟨_, rfl⟩
    subst hwp
    obtain ⟨k, v, rfl, hk, hpb, hown, hzb, hbel, hsz⟩ := hrel
    have hvl := World.ownsRow.lt hown
    have PB := Lib.hid hpb
    have ZB := Lib.hid hzb
    have OV := Lib.hid hown
    have B0 := Lib.hid hbel
    clear hpb hown hzb hbel
    by_cases hlt : k < fs.length
    · obtain ⟨b, o, cs, rfl, _, hb1, hc1, hat⟩ := Hr.out k hlt
      obtain rfl : cs = [.string fs[k].fName, .int .i64 fs[k].fMark, .int .i64 fs[k].fType] := hat
      have e0 := (B0.out.cell (p := ⟨b, o + k * 3 + 0, none⟩) hb1).trans (hc1 0 (by decide))
      have e1 := (B0.out.cell (p := ⟨b, o + k * 3 + 1, none⟩) hb1).trans (hc1 1 (by decide))
      have e2 := (B0.out.cell (p := ⟨b, o + k * 3 + 2, none⟩) hb1).trans (hc1 2 (by decide))
      simp at e0 e1 e2
      have HN := Lib.hid (fun W => iTextSum fs[k].fName W (HF.out k hlt).1)
      have Hnx := Lib.hid (show N.take (k + 1) = N.take k ++ [textZ fs[k].fName] by rw [Hnz.out]; exact map_next _ hlt)
      have hNk : (N.take k).length ≤ 6 := by rw [List.length_take]; omega
      clear hc1
      generalize fs[k] = f at *
      go_wp2_with fail
      have PB0 := Lib.hid (PB.out.alloc (.cells #[.string f.fName, .int .i64 f.fMark, .int .i64 f.fType] 113))
      have ZB0 := Lib.hid (ZB.out.alloc (.cells #[.string f.fName, .int .i64 f.fMark, .int .i64 f.fType] 113))
      have OV0 := Lib.hid (OV.out.alloc (.cells #[.string f.fName, .int .i64 f.fMark, .int .i64 f.fType] 113))
      have B1 := Lib.hid (B0.out.alloc B0.out.size (.cells #[.string f.fName, .int .i64 f.fMark, .int .i64 f.fType] 113))
      have q0 : (wp.alloc (.cells #[.string f.fName, .int .i64 f.fMark, .int .i64 f.fType] 113)).cell? ⟨wp.heap.size, 0, none⟩ = some (.string f.fName) := (Box.new wp 113 _).cell 0
      have hq0 : w.heap.size + 3 ≤ (wp.alloc (.cells #[.string f.fName, .int .i64 f.fMark, .int .i64 f.fType] 113)).heap.size := by simp; omega
      have hgq : wp.heap.size < (wp.alloc (.cells #[.string f.fName, .int .i64 f.fMark, .int .i64 f.fType] 113)).heap.size := by simp
      generalize wp.alloc (.cells #[.string f.fName, .int .i64 f.fMark, .int .i64 f.fType] 113) = wq at *
      have hbq := B1.out.size
      have p0 : _ = some v := PB0.out.cell 7
      clear e0 e1 e2 PB ZB OV B0
      go_region_law (first
        | (go_simp; go_at_call 55; refine (HN.out _).mono ?_; rintro e wa ⟨rfl, hba⟩; have hbd : Below wq.heap.size wq wa := ⟨hba.os, hba.tape, hba.output, hba.size, hba.block⟩; have PB1 := Lib.hid (PB0.out.below hbd PB0.out.lt); have ZB1 := Lib.hid (ZB0.out.below hbd ZB0.out.lt); have OV1 := Lib.hid (OV0.out.below hbd); have B2 := Lib.hid (B1.out.trans (hbd.mono hbq)); have hq1 := Nat.le_trans hq0 hbd.size; have hb2 := B2.out.size; have p1 : _ = some v := PB1.out.cell 7; have p2 : ∀ ob, (wa.alloc ob).cell? ⟨w.heap.size + 1 + 1, 7, none⟩ = some v := fun ob => (PB1.out.alloc ob).cell 7; clear hba hbd)
        | (refine step_pushInts rfl _ _ rfl (w.heap.size + 3) _ _ (N.take k) rfl (OV1.out.alloc _) [textZ f.fName] _ _ _ rfl rfl (Box.new' _ _ _ rfl) (by simp) (by first | omega | (simp; done) | (simp; omega)) (by first | omega | (simp; done) | (simp; omega)) ?_; intro v' w4 hown4 hg4 _; obtain ⟨va, vn, vc, rfl⟩ := hown4.form; have PB4 := Lib.hid (box_grown (PB1.out.alloc _) hg4 (fun k hk => Nat.ne_of_gt (hvl k hk).1)); have ZB4 := Lib.hid (box_grown (ZB1.out.alloc _) hg4 (fun k hk => Nat.ne_of_gt (Nat.lt_of_succ_lt (hvl k hk).1))); have O4 := Lib.hid hown4; have B4 := Lib.hid ((B2.out.alloc hb2 _).grown hg4 (by first | omega | (simp; done) | (simp; omega)) (fun k hk => Nat.le_trans (Nat.le_add_right _ 3) (hvl k hk).1)); have hq4 : w.heap.size + 3 ≤ w4.heap.size := Nat.le_trans (Nat.le_trans hq1 (Nat.le_of_lt (by simp))) hg4.size; have pc : _ = some v := PB4.out.cell 7; have pf := PB4.out.free 7; clear hown4 hg4))
      all_goals
        have PB5 := Lib.hid (PB4.out.set 7 (.slice va vn vc))
        have ZB5 := Lib.hid (ZB4.out.only ((Only.refl (w.heap.size + 1 + 1) _).set 7 (.slice va vn vc)) (by omega))
        have B5 := Lib.hid (B4.out.setCell (p := ⟨w.heap.size + 1 + 1, 7, none⟩) (by show w.heap.size ≤ w.heap.size + 1 + 1; omega) (.slice va vn vc))
        have O5 := Lib.hid (show OwnInts (w4.setCell ⟨w.heap.size + 1 + 1, 7, none⟩ (.slice va vn vc)) (w.heap.size + 3) (.slice va vn vc) (N.take (k + 1)) by
          rw [Hnx.out]
          refine O4.out.keep (fun q hq => ?_)
          have h3 := (World.ownsRow.lt O4.out q hq).1
          exact Below.heap_setCell w4 ⟨w.heap.size + 1 + 1, 7, none⟩ _ q (fun e => by have : q = w.heap.size + 1 + 1 := e; omega))
        have hq5 : w.heap.size + 3 ≤ (w4.setCell ⟨w.heap.size + 1 + 1, 7, none⟩ (.slice va vn vc)).heap.size := by simp [World.setCell]; omega
        clear PB0 PB1 PB4 ZB0 ZB1 ZB4 OV0 OV1 O4 B1 B2 B4 p0 p1 p2 pc pf
        go_wp2_with fail
        exact ⟨⟨k + 1, _, by congr 1, by omega, PB5.out, O5.out, ZB5.out, B5.out, hq5⟩, by simp [intOf]; omega⟩
    · have hall : N.take k = N := by rw [Hnz.out]; exact map_all _ hlt
      have OV2 := Lib.hid (hall ▸ OV.out)
      clear hall OV
      obtain ⟨va, vn, vc, rfl⟩ := OV2.out.form
      obtain ⟨c0, c1, c2, c3', c4, c5, c6, c7⟩ := box8 PB.out
      obtain ⟨z0, z1, z2, z3, z4, z5, z6, z7⟩ := box8 ZB.out
      have zf := ZB.out.free
      go_wp2_with fail
      refine bodyPost_ret (results_one rfl Tryz.underlying173 rfl _ _ (w.heap.size + 1) #[.int .i64 kd, .int .i64 lg, .int .i64 bs, .slice a3 fs.length c3, .string ow, .string nm, .int .i64 F, .slice va vn vc] rfl 173 ?qbox 8 sizePart rfl) rfl ?_
      case qbox => exact ((((((((ZB.out.set 0 _).set 1 _).set 2 _).set 3 _).set 4 _).set 5 _).set 6 _).set 7 _)
      have hb := B0.out
      have hon := (((((((((Only.refl (w.heap.size + 1) wp).set 0 (.int .i64 kd)).set 1 (.int .i64 lg)).set 2 (.int .i64 bs)).set 3 (.slice a3 fs.length c3)).set 4 (.string ow)).set 5 (.string nm)).set 6 (.int .i64 F)).set 7 (.slice va vn vc))
      exact ⟨_, rfl, (OV2.out.keep (fun q hq => hon.block q (World.ownsRow.lt OV2.out q hq).2 (fun e => by have h3 := (World.ownsRow.lt OV2.out q hq).1; injection e with e; omega))).lower (by omega), ((((((((hb.setCell (by show w.heap.size ≤ w.heap.size + 1; omega) (.int .i64 kd)).setCell (by show w.heap.size ≤ w.heap.size + 1; omega) (.int .i64 lg)).setCell (by show w.heap.size ≤ w.heap.size + 1; omega) (.int .i64 bs)).setCell (by show w.heap.size ≤ w.heap.size + 1; omega) (.slice a3 fs.length c3)).setCell (by show w.heap.size ≤ w.heap.size + 1; omega) (.string ow)).setCell (by show w.heap.size ≤ w.heap.size + 1; omega) (.string nm)).setCell (by show w.heap.size ≤ w.heap.size + 1; omega) (.int .i64 F)).setCell (by show w.heap.size ≤ w.heap.size + 1; omega) (.slice va vn vc))⟩

theorem nums_rows {w : World} {a : Option Addr} {l : List Int} (h : Nums w a l) : Rows intS Any w a l := fun i hi => by
  obtain ⟨b, o, e, h1, h2⟩ := h i hi
  refine ⟨b, o, [.int .i64 l[i]], e, trivial, h1, fun j hj => ?_, rfl⟩
  have hn : intS.n = 1 := rfl
  obtain rfl : j = 0 := by omega
  rw [hn, Nat.mul_one, Nat.add_zero, h2]
  rfl
theorem rows_nums {Q : Nat → Prop} {w : World} {a : Option Addr} {l : List Int} (h : Rows intS Q w a l) : Nums w a l := fun i hi => by
  obtain ⟨b, o, cs, e, _, h1, h2, hat⟩ := h i hi
  obtain rfl : cs = [.int .i64 l[i]] := hat
  have hn : intS.n = 1 := rfl
  have := h2 0 (by omega)
  rw [hn, Nat.mul_one, Nat.add_zero] at this
  exact ⟨b, o, e, h1, this⟩
end Go.Proofs.YtllddjmcemcdhaaGreat

namespace Go.Proofs.YtllddjmcemcdhaaGreat
open Go.ChangeShapes Go.WideShapes Go.ChangeAt Go.RowKit
set_option maxRecDepth 100000

set_option maxHeartbeats 16000000 in
theorem iSumBehind (ah : List Int) (aa : Option Addr) (ac : Nat) (t : TypeD) (a3 : Option Addr) (c3 : Nat) (an : Option Addr) (cn : Nat) (w : World) (ht : RT ah.length t) (hr : Rows fieldS Any w a3 t.fFields) (hn : Nums w an (namesZ t)) (ha : Nums w aa ah) :
    Calls Tryz.prog 111 #[.agg #[.int .i64 t.fKind, .int .i64 t.fLong, .int .i64 t.fBase, .slice a3 t.fFields.length c3, .string t.fOwner, .string t.fName, .int .i64 (firstZ t), .slice an t.fFields.length cn], .slice aa ah.length ac] w fun e w' => e = .returned (.int .i64 (behindZ ah t)) ∧ Below w.heap.size w w' := by
  have Hr := Lib.hid hr
  have Hn := Lib.hid hn
  have Ha := Lib.hid ha
  have Hz := Lib.hid (show behindZ ah t = mixL ([firstZ t, baseRZ ah t] ++ fieldsZ ah t.fFields) from rfl)
  have HF := Lib.hid ht.field
  have hb := ht.base
  have h6 := ht.six
  have Hnl := Lib.hid (show namesZ t = t.fFields.map (fun f => textZ f.fName) from rfl)
  clear hr hn ha ht
  obtain ⟨bh, hbh⟩ : ∃ z, behindZ ah t = z := ⟨_, rfl⟩
  rw [hbh] at Hz
  rw [hbh]
  clear hbh
  obtain ⟨N, hN⟩ : ∃ N, namesZ t = N := ⟨_, rfl⟩
  rw [hN] at Hnl Hn
  clear hN
  obtain ⟨F, hF⟩ : ∃ F, firstZ t = F := ⟨_, rfl⟩
  rw [hF] at Hz
  rw [hF]
  clear hF
  obtain ⟨bz, hbz⟩ : ∃ z, baseRZ ah t = z := ⟨_, rfl⟩
  rw [hbz] at Hz
  obtain ⟨kd, lg, bs, fs, ow, nm⟩ := t
  dsimp only at *
  go_enter Tryz.func111, Tryz.ntmps111
  by_cases hbs : bs = -1
  case' pos =>
    subst hbs
    obtain rfl : bz = 7 := hbz.symm.trans (if_pos rfl)
    clear hbz hb
    go_wp2_with fail
    have P5 := Lib.hid (Box.new' (g := w.heap.size + 1) (w.alloc (.cells #[.int .i64 kd, .int .i64 lg, .int .i64 (-1), .slice a3 fs.length c3, .string ow, .string nm, .int .i64 F, .slice an fs.length cn] 173)) 3 #[.int .i64 F, .int .i64 7] (by simp))
    have T5 := Lib.hid ((Box.new w 173 #[.int .i64 kd, .int .i64 lg, .int .i64 (-1), .slice a3 fs.length c3, .string ow, .string nm, .int .i64 F, .slice an fs.length cn]).alloc (.cells #[.int .i64 F, .int .i64 7] 3))
    have B5 := Lib.hid ((((Below.refl w.heap.size w).alloc (Nat.le_refl _) (.cells #[.int .i64 kd, .int .i64 lg, .int .i64 (-1), .slice a3 fs.length c3, .string ow, .string nm, .int .i64 F, .slice an fs.length cn] 173)).alloc (by simp) (.cells #[.int .i64 F, .int .i64 7] 3)))
    generalize (w.alloc (.cells #[.int .i64 kd, .int .i64 lg, .int .i64 (-1), .slice a3 fs.length c3, .string ow, .string nm, .int .i64 F, .slice an fs.length cn] 173)).alloc (.cells #[.int .i64 F, .int .i64 7] 3) = w5 at *
    have q7 : _ = some (Value.slice an fs.length cn) := T5.out.cell 7
    clear T5
    generalize (7 : Int) = bz at Hz P5
  case' neg =>
    obtain ⟨n, rfl⟩ := Int.eq_ofNat_of_zero_le (show 0 ≤ bs by omega)
    have hn : n < ah.length := by omega
    obtain rfl : bz = ah.getD n 0 := hbz.symm.trans (by unfold baseRZ; rw [if_neg hbs]; rfl)
    have j1 : (0 : Int) ≤ (n : Int) := by omega
    have j2 : (n : Int) < (ah.length : Int) := by omega
    obtain ⟨nb, no, hne, _, _⟩ := Ha.out n hn
    subst hne
    have hnb := (Ha.out.at n hn).1
    have en := (Ha.out.at n hn).2
    generalize ah.getD n 0 = bz at *
    have en2 := fun ob => (World.cell?_alloc_lt w ob ⟨nb, no + n, none⟩ (World.block_lt_of_cell? _ _ en)).trans en
    have hbs2 : ((n : Int) == -1) = false := beq_eq_false_iff_ne.2 hbs
    clear hbz hb
    go_wp2_with fail
    have P5 := Lib.hid (Box.new' (g := w.heap.size + 1) (w.alloc (.cells #[.int .i64 kd, .int .i64 lg, .int .i64 (n : Int), .slice a3 fs.length c3, .string ow, .string nm, .int .i64 F, .slice an fs.length cn] 173)) 3 #[.int .i64 F, .int .i64 bz] (by simp))
    have T5 := Lib.hid ((Box.new w 173 #[.int .i64 kd, .int .i64 lg, .int .i64 (n : Int), .slice a3 fs.length c3, .string ow, .string nm, .int .i64 F, .slice an fs.length cn]).alloc (.cells #[.int .i64 F, .int .i64 bz] 3))
    have B5 := Lib.hid ((((Below.refl w.heap.size w).alloc (Nat.le_refl _) (.cells #[.int .i64 kd, .int .i64 lg, .int .i64 (n : Int), .slice a3 fs.length c3, .string ow, .string nm, .int .i64 F, .slice an fs.length cn] 173)).alloc (by simp) (.cells #[.int .i64 F, .int .i64 bz] 3)))
    generalize (w.alloc (.cells #[.int .i64 kd, .int .i64 lg, .int .i64 (n : Int), .slice a3 fs.length c3, .string ow, .string nm, .int .i64 F, .slice an fs.length cn] 173)).alloc (.cells #[.int .i64 F, .int .i64 bz] 3) = w5 at *
    have q7 : _ = some (Value.slice an fs.length cn) := T5.out.cell 7
    clear en en2 hnb j1 j2 hbs hbs2 T5
  all_goals
    have O5 := Lib.hid (OwnInts.ofBox (l := [F, bz]) (B := w.heap.size + 1) P5.out (Nat.le_refl _) (by unfold maxLen; simp))
    have hs5 : w.heap.size + 1 ≤ w5.heap.size := Nat.le_of_lt P5.out.lt
    clear P5
    go_loopw [6, 27] (fun v i wr => ∃ m : Nat, i = .int .i64 m ∧ m ≤ fs.length ∧ OwnInts wr (w.heap.size + 1) v ([F, bz] ++ fieldsZ ah (fs.take m)) ∧ Below (w.heap.size + 1) w5 wr) (fun _ i _ => fs.length - (intOf i).toNat)
    case atStart => exact ⟨0, rfl, by omega, by rw [fieldsZ_zero]; exact O5.out, Below.refl _ _⟩
    case round =>
      obtain ⟨wf, hwf⟩ : ∃ y, y = wr := ⟨_, rfl⟩
      subst hwf
      obtain ⟨V6, hV6⟩ : ∃ x, x = u6 := ⟨_, rfl⟩
      subst hV6
      obtain ⟨p, rfl, hp, hown, hbel⟩ := hrel
      have Bf := Lib.hid (B5.out.trans (hbel.mono (by omega)))
      have hsf := Nat.le_trans hs5 hbel.size
      have Of := Lib.hid hown
      have Gf := Lib.hid hbel
      have hvf := World.ownsRow.lt hown
      have hlen : ([F, bz] ++ fieldsZ ah (fs.take p)).length ≤ 20 := by rw [List.length_append, fieldsZ_len, List.length_take]; simp; omega
      have hlen2 : (fieldsZ ah (fs.take p)).length ≤ 18 := by rw [fieldsZ_len, List.length_take]; omega
      have r7 := (hbel.cell (p := ⟨w.heap.size, 7, none⟩) (Nat.lt_succ_self _)).trans q7
      clear hown hbel
      by_cases hlp : p < fs.length
      · obtain ⟨xb, xo, cs, hfa, _, hxb, hxc, hat⟩ := Hr.out p hlp
        obtain rfl : cs = [.string fs[p].fName, .int .i64 fs[p].fMark, .int .i64 fs[p].fType] := hat
        subst hfa
        have g0 := (Bf.out.cell (p := ⟨xb, xo + p * 3 + 0, none⟩) hxb).trans (hxc 0 (by decide))
        have g1 := (Bf.out.cell (p := ⟨xb, xo + p * 3 + 1, none⟩) hxb).trans (hxc 1 (by decide))
        have g2 := (Bf.out.cell (p := ⟨xb, xo + p * 3 + 2, none⟩) hxb).trans (hxc 2 (by decide))
        simp at g0 g1 g2
        have hpN : p < N.length := by rw [Hnl.out, List.length_map]; exact hlp
        obtain ⟨mb, mo, hme, _, _⟩ := Hn.out p hpN
        subst hme
        have em := (Bf.out.cell (p := ⟨mb, mo + p, none⟩) (Hn.out.at p hpN).1).trans (Hn.out.at p hpN).2
        rw [show N.getD p 0 = textZ fs[p].fName by rw [Hnl.out]; simp [List.getD, hlp]] at em
        have hft := HF.out p hlp
        have Hfn := Lib.hid (fieldsZ_next ah hlp)
        have Hfz := Lib.hid (show fieldZ ah fs[p] = [textZ fs[p].fName, fs[p].fMark, ah.getD fs[p].fType.toNat 0] from rfl)
        have hft2 := hft.2
        have k1 : (0 : Int) ≤ (p : Int) := by omega
        have k2 : (p : Int) < (fs.length : Int) := by omega
        clear hxc hft
        generalize fs[p] = f at *
        obtain ⟨fnm, fmk, fty⟩ := f
        dsimp only at *
        obtain ⟨n, rfl⟩ := Int.eq_ofNat_of_zero_le hft2.1
        have hn : n < ah.length := by omega
        have j1 : (0 : Int) ≤ (n : Int) := by omega
        have j2 : (n : Int) < (ah.length : Int) := by omega
        obtain ⟨nb, no, hne, _, _⟩ := Ha.out n hn
        cases hne
        have en := (Bf.out.cell (p := ⟨nb, no + n, none⟩) (Ha.out.at n hn).1).trans (Ha.out.at n hn).2
        rw [show ((n : Int)).toNat = n from rfl] at Hfz
        generalize ah.getD n 0 = az at *
        generalize textZ fnm = tz at *
        go_wp2_with fail
        have X0 := Lib.hid (Box.new wf 113 #[.string fnm, .int .i64 fmk, .int .i64 (n : Int)])
        have B0 := Lib.hid (Gf.out.alloc hsf (.cells #[.string fnm, .int .i64 fmk, .int .i64 (n : Int)] 113))
        have O0 := Lib.hid (Of.out.alloc (.cells #[.string fnm, .int .i64 fmk, .int .i64 (n : Int)] 113))
        have n0 := (World.cell?_alloc_lt wf (.cells #[.string fnm, .int .i64 fmk, .int .i64 (n : Int)] 113) ⟨nb, no + n, none⟩ (World.block_lt_of_cell? _ _ en)).trans en
        have m0 := (World.cell?_alloc_lt wf (.cells #[.string fnm, .int .i64 fmk, .int .i64 (n : Int)] 113) ⟨mb, mo + p, none⟩ (World.block_lt_of_cell? _ _ em)).trans em
        have s0 := (World.cell?_alloc_lt wf (.cells #[.string fnm, .int .i64 fmk, .int .i64 (n : Int)] 113) ⟨w.heap.size, 7, none⟩ (World.block_lt_of_cell? _ _ r7)).trans r7
        have hnb := (Ha.out.at n hn).1
        have hmb := (Hn.out.at p (by rw [Hnl.out, List.length_map]; exact hlp)).1
        have hq0 : wf.heap.size < (wf.alloc (.cells #[.string fnm, .int .i64 fmk, .int .i64 (n : Int)] 113)).heap.size := by simp
        clear Gf Of
        generalize wf.alloc (.cells #[.string fnm, .int .i64 fmk, .int .i64 (n : Int)] 113) = wq at *
        have hbq := Nat.le_trans hsf (Nat.le_of_lt hq0)
        have n2 := fun ob => (World.cell?_alloc_lt wq ob ⟨nb, no + n, none⟩ (World.block_lt_of_cell? _ _ n0)).trans n0
        have m2 := fun ob => (World.cell?_alloc_lt wq ob ⟨mb, mo + p, none⟩ (World.block_lt_of_cell? _ _ m0)).trans m0
        have s2 := fun ob => (World.cell?_alloc_lt wq ob ⟨w.heap.size, 7, none⟩ (World.block_lt_of_cell? _ _ s0)).trans s0
        go_region_held3 (fun w' => (w'.cell? ⟨wf.heap.size, 0, none⟩ = some (.string fnm) ∧ w'.cell? ⟨wf.heap.size, 1, none⟩ = some (.int .i64 fmk) ∧ w'.cell? ⟨wf.heap.size, 2, none⟩ = some (.int .i64 (n : Int))) ∧ w'.cell? ⟨nb, no + n, none⟩ = some (.int .i64 az) ∧ w'.cell? ⟨mb, mo + p, none⟩ = some (.int .i64 tz) ∧ w'.cell? ⟨w.heap.size, 7, none⟩ = some (.slice (some ⟨mb, mo, none⟩) fs.length cn))
          (first
            | exact ⟨box3 X4.out, n4, m4, s4⟩
            | exact ⟨box3 (X0.out.alloc _), n2 _, m2 _, s2 _⟩
            | exact ⟨box3 X0.out, n0, m0, s0⟩
            | go_keep)
          (first
            | (refine step_pushInts rfl _ _ rfl (w.heap.size + 1) _ _ ([F, bz] ++ fieldsZ ah (fs.take p)) rfl ((O0.out.drew1).alloc _) [tz, fmk, az] _ _ _ rfl rfl (Box.new' _ _ _ rfl) (by simp) (by first | omega | (simp; done) | (simp; omega)) (by first | omega | (simp; done) | (simp; omega)) ?_; intro v' w4 hown4 hg4 _; have X4 := Lib.hid (box_grown ((X0.out.drew).alloc _) hg4 (fun k hk => Nat.ne_of_lt (hvf k hk).2)); have n4 := (hg4.cell (a := ⟨nb, no + n, none⟩) (n2 _) (fun e => absurd (hvf _ e.symm).1 (show ¬ w.heap.size + 1 ≤ nb by omega))); have m4 := (hg4.cell (a := ⟨mb, mo + p, none⟩) (m2 _) (fun e => absurd (hvf _ e.symm).1 (show ¬ w.heap.size + 1 ≤ mb by omega))); have s4 := (hg4.cell (a := ⟨w.heap.size, 7, none⟩) (s2 _) (fun e => absurd (hvf _ e.symm).1 (show ¬ w.heap.size + 1 ≤ w.heap.size by omega))); have O4 := Lib.hid hown4; have B4 := Lib.hid (((below_drew1 B0.out).alloc hbq _).grown hg4 (by first | omega | (simp; done) | (simp; omega)) (fun k hk => (hvf k hk).1)); clear hown4 hg4)
            | fail)
        have O6 := Lib.hid (show OwnInts w4 (w.heap.size + 1) v' ([F, bz] ++ fieldsZ ah (fs.take (p + 1))) by rw [Hfn.out, Hfz.out, ← List.append_assoc]; exact O4.out)
        clear X0 X4 O0 O4 B0 Hfn Hfz n0 n2 n4 m0 m2 m4 s0 s2 s4
        go_wp2_with fail
        first
          | exact ⟨⟨p + 1, by congr 1, by omega, O6.out, B4.out⟩, by simp [intOf]; omega⟩
          | (refine ⟨?_, by simp [intOf]; omega⟩
             repeat apply Exists.intro
             exact ⟨⟨p + 1, rfl, by omega, O6.out, B4.out⟩, rfl⟩)
      · have Hpa := Lib.hid (show [F, bz] ++ fieldsZ ah (fs.take p) = [F, bz] ++ fieldsZ ah fs by rw [List.take_of_length_le (by omega)])
        have Of2 := Lib.hid (Hpa.out ▸ Of.out)
        have Hl20 := Lib.hid (Hpa.out ▸ hlen)
        obtain ⟨pa, pc, rfl, _, hpn⟩ := Of2.out.nums
        have Hpn := Lib.hid hpn
        clear hpn hlen Hpa Of
        go_wp2_with fail
        refine (iMixed pa pc ([F, bz] ++ fieldsZ ah fs) _ (by have := Hl20.out; omega) Hpn.out.ints).mono ?_
        rintro e w' ⟨rfl, rfl⟩
        go_wp2_with fail
        go_ret
        exact ⟨by rw [Hz.out]; rfl, Bf.out⟩
end Go.Proofs.YtllddjmcemcdhaaGreat

namespace Go.Proofs.YtllddjmcemcdhaaGreat
open Go.ChangeShapes Go.WideShapes Go.ChangeAt Go.RowKit
set_option maxRecDepth 100000

theorem infoPart : (Tryz.prog.info? 173).map (fun i => (i.zero, i.size, i.bytes)) = some (some (.agg #[.int .i64 0, .int .i64 0, .int .i64 0, .slice none 0 0, .string ByteArray.empty, .string ByteArray.empty, .int .i64 0, .slice none 0 0]), 8, 112) := by kernel_rfl
theorem namesZ_len (t : TypeD) : (namesZ t).length = t.fFields.length := by simp [namesZ]
theorem OwnInts.rowsI {w : World} {B : Nat} {v : Value} {l : List Int} (h : OwnInts w B v l) : ∃ a c, v = .slice a l.length c ∧ Rows intS (fun q => B ≤ q) w a l := by
  obtain ⟨a, c, e, _, hn⟩ := h.nums
  refine ⟨a, c, e, fun i hi => ?_⟩
  obtain ⟨b, o, e2, h1, h2⟩ := hn i hi
  subst e2
  have hb : B ≤ b := by
    rcases h.2 with ⟨h0, _⟩ | ⟨g, cap, cur, h0, hg, _⟩
    · rw [h0] at e; cases e
    · rw [h0] at e; cases e; exact hg
  refine ⟨b, o, [.int .i64 l[i]], rfl, hb, h1, fun j hj => ?_, rfl⟩
  have hn1 : intS.n = 1 := rfl
  obtain rfl : j = 0 := by omega
  rw [hn1, Nat.mul_one, Nat.add_zero, h2]
  rfl
/-- append of one number to a row of numbers, with where the new row lies. -/
theorem wpList_pushIntG {ops : Array Oper} {rest : List Oper} {o : Oper} {a : Act} {Q : Exit → Act → World → Prop} (hgd : o.guard = none) (s x : Operand)
    (ho : o.op = .call { callee := .builtin .append, args := #[s, x], argTypes := #[48, 48] })
    (B : Nat) (w : World) (v : Value) (l : List Int) (hs : a.eval s = v) (hown : OwnInts w B v l) (u : Int) (g c : Nat) (hx : a.eval x = .slice (some ⟨g, 0, none⟩) 1 c) (hg : Box w g 3 #[.int .i64 u])
    (h63 : l.length + 1 ≤ 1048577 + 1048576) (hbase : B ≤ w.heap.size)
    (h : ∀ v' w', OwnInts w' B v' (l ++ [u]) → w.grownBy w' v.ownBlock → (v'.ownBlock = v.ownBlock ∨ v'.ownBlock = some w.heap.size) → wpList Tryz.prog ops Q rest (a.put o.dst v') w') : wpList Tryz.prog ops Q (o :: rest) a w := by
  obtain ⟨i0, hi, hz0, hz1, hz2⟩ := info_parts infoInt
  refine wpList_append_own_at _ hgd s x 48 ho B 3 i0 (.int .i64 0) 1 8 Tryz.underlying48 hi hz0 hz1 hz2 rfl (by decide) v l.length (l.map (Value.int .i64)) hs hown ⟨g, 0, none⟩ 1 c [.int .i64 u] hx rfl ?_
    (fun y hy => by rw [List.mem_singleton.1 hy]; rfl) (by unfold maxLen; omega) (by omega) hbase (fun v' w' h1 h2 _ h4 => h v' w' (by unfold OwnInts; rw [List.map_append, List.length_append]; exact h1) h2 h4)
  intro j y hj
  have e : (⟨g, 0, none⟩ : Addr).add j = ⟨g, j, none⟩ := by unfold Addr.add; split <;> simp_all
  rw [e, hg.cell]
  simpa using hj

set_option maxHeartbeats 16000000 in
theorem iSumsBehind (a : Option Addr) (c : Nat) (l : List TypeD) (r : Nat) (w : World) (hl : l.length ≤ 24) (hrt : ∀ n (h : n < l.length), RT l.length l[n]) (hrn : r ≤ 25) (hr : Rows typeS Any w a l) :
    Calls Tryz.prog 82 #[.slice a l.length c, .int .i64 (r : Int)] w fun e w' => ∃ v, e = .returned v ∧ OwnInts w' w.heap.size v (roundsZ l r) ∧ Below w.heap.size w w' := by
  have Hr := Lib.hid hr
  have Hrt := Lib.hid hrt
  clear hr hrt
  go_enter Tryz.func82, Tryz.ntmps82
  go_wp2_with fail
  go_loopw [5, 6, 15] (fun p s i wr => ∃ k : Nat, i = .int .i64 k ∧ k ≤ l.length ∧ OwnG partS 173 w.heap.size (fun q => s.ownBlock ≠ some q) wr p (l.take k) ∧ OwnInts wr w.heap.size s ((firstsZ l).take k) ∧ (∀ q, p.ownBlock = some q → s.ownBlock ≠ some q) ∧ Below w.heap.size w wr) (fun _ _ i _ => l.length - (intOf i).toNat)
  case atStart => exact ⟨0, rfl, by omega, OwnG.nil, OwnInts.nil, fun q h => by simp [Value.ownBlock] at h, Below.refl _ _⟩
  case round =>
    obtain ⟨V5, hV5⟩ : ∃ x, x = u5 := ⟨_, rfl⟩
    subst hV5
    obtain ⟨V6, hV6⟩ : ∃ x, x = u6 := ⟨_, rfl⟩
    subst hV6
    obtain ⟨k, rfl, hk, hown, hint, hap, hbel⟩ := hrel
    by_cases hlt : k < l.length
    · have hT := Hrt.out k hlt
      obtain ⟨b, o, cs, hba, _, hb1, hc1, hat⟩ := Hr.out k hlt
      obtain ⟨a3, c3, rfl, hrf, hfc⟩ := hat
      subst hba
      have e0 := (hbel.cell (p := ⟨b, o + k * 6 + 0, none⟩) hb1).trans (hc1 0 (by decide))
      have e1 := (hbel.cell (p := ⟨b, o + k * 6 + 1, none⟩) hb1).trans (hc1 1 (by decide))
      have e2 := (hbel.cell (p := ⟨b, o + k * 6 + 2, none⟩) hb1).trans (hc1 2 (by decide))
      have e3 := (hbel.cell (p := ⟨b, o + k * 6 + 3, none⟩) hb1).trans (hc1 3 (by decide))
      have e4 := (hbel.cell (p := ⟨b, o + k * 6 + 4, none⟩) hb1).trans (hc1 4 (by decide))
      have e5 := (hbel.cell (p := ⟨b, o + k * 6 + 5, none⟩) hb1).trans (hc1 5 (by decide))
      simp at e0 e1 e2 e3 e4 e5
      have hpl := OwnG.lt hown
      have hsl := World.ownsRow.lt hint
      have hsz := hbel.size
      have P0 := Lib.hid hown
      have S0 := Lib.hid hint
      have A0 := Lib.hid hap
      have B0 := Lib.hid hbel
      have RF := Lib.hid (show Rows fieldS (fun q => q < w.heap.size) w a3 l[k].fFields from hrf.mono (fun q _ h => h))
      have Hnx := Lib.hid (map_next firstZ hlt)
      have Htk := Lib.hid (show l.take (k + 1) = l.take k ++ [l[k]] from List.take_succ_eq_append_getElem hlt)
      have HP := Lib.hid (fun W (h : Rows fieldS Any W a3 l[k].fFields) => iRoundPartOf l[k] l.length a3 c3 W hT h)
      have Hnl := Lib.hid (namesZ_len l[k])
      clear hown hint hap hbel hrf hfc hT hc1
      generalize l[k] = t at *
      have Bq := Lib.hid (B0.out.alloc hsz (.cells #[.int .i64 t.fKind, .int .i64 t.fLong, .int .i64 t.fBase, .slice a3 t.fFields.length c3, .string t.fOwner, .string t.fName] 110))
      have Pq := Lib.hid (P0.out.alloc (.cells #[.int .i64 t.fKind, .int .i64 t.fLong, .int .i64 t.fBase, .slice a3 t.fFields.length c3, .string t.fOwner, .string t.fName] 110))
      have Sq := Lib.hid (S0.out.alloc (.cells #[.int .i64 t.fKind, .int .i64 t.fLong, .int .i64 t.fBase, .slice a3 t.fFields.length c3, .string t.fOwner, .string t.fName] 110))
      have hq0 : wr.heap.size < (wr.alloc (.cells #[.int .i64 t.fKind, .int .i64 t.fLong, .int .i64 t.fBase, .slice a3 t.fFields.length c3, .string t.fOwner, .string t.fName] 110)).heap.size := by simp
      clear B0 P0 S0
      go_wp2_with fail
      generalize (wr.alloc (.cells #[.int .i64 t.fKind, .int .i64 t.fLong, .int .i64 t.fBase, .slice a3 t.fFields.length c3, .string t.fOwner, .string t.fName] 110)) = wq at *
      refine (HP.out _ ((RF.out.keep (fun q h _ => Bq.out.block q h) Bq.out.size).any)).mono ?_
      rintro e w1 ⟨nv, rfl, hnv, hb1'⟩
      obtain ⟨na, nc, hnve, hnr⟩ := hnv.rowsI
      rw [Hnl.out] at hnve
      subst hnve
      have NR := Lib.hid hnr
      have P1 := Lib.hid (Pq.out.below hb1')
      have S1 := Lib.hid (Sq.out.below hb1')
      have B1 := Lib.hid (Bq.out.trans (hb1'.mono Bq.out.size))
      have hs1 := B1.out.size
      have hq1 := hb1'.size
      have RF1 := Lib.hid (RF.out.keep (fun q h _ => B1.out.block q h) B1.out.size)
      clear hnv hnr hb1' Pq Sq Bq HP RF
      have hsl2 : ∀ q, V6.ownBlock = some q → q < w1.heap.size := fun q h => by have := (hsl q h).2; omega
      have hpl2 : ∀ q, V5.ownBlock = some q → q < w1.heap.size := fun q h => by have := (hpl q h).2; omega
      have X1 := Lib.hid (Box.new w1 173 #[.int .i64 t.fKind, .int .i64 t.fLong, .int .i64 t.fBase, .slice a3 t.fFields.length c3, .string t.fOwner, .string t.fName, .int .i64 (firstZ t), .slice na t.fFields.length nc])
      have X2 := Lib.hid (X1.out.alloc (.cells #[.int .i64 t.fKind, .int .i64 t.fLong, .int .i64 t.fBase, .slice a3 t.fFields.length c3, .string t.fOwner, .string t.fName, .int .i64 (firstZ t), .slice na t.fFields.length nc] 173))
      have Y2 := Lib.hid (Box.new' (g := w1.heap.size + 1) (w1.alloc (.cells #[.int .i64 t.fKind, .int .i64 t.fLong, .int .i64 t.fBase, .slice a3 t.fFields.length c3, .string t.fOwner, .string t.fName, .int .i64 (firstZ t), .slice na t.fFields.length nc] 173)) 173 #[.int .i64 t.fKind, .int .i64 t.fLong, .int .i64 t.fBase, .slice a3 t.fFields.length c3, .string t.fOwner, .string t.fName, .int .i64 (firstZ t), .slice na t.fFields.length nc] (by simp))
      have P2 := Lib.hid ((P1.out.alloc (.cells #[.int .i64 t.fKind, .int .i64 t.fLong, .int .i64 t.fBase, .slice a3 t.fFields.length c3, .string t.fOwner, .string t.fName, .int .i64 (firstZ t), .slice na t.fFields.length nc] 173)).alloc (.cells #[.int .i64 t.fKind, .int .i64 t.fLong, .int .i64 t.fBase, .slice a3 t.fFields.length c3, .string t.fOwner, .string t.fName, .int .i64 (firstZ t), .slice na t.fFields.length nc] 173))
      have S2 := Lib.hid ((S1.out.alloc (.cells #[.int .i64 t.fKind, .int .i64 t.fLong, .int .i64 t.fBase, .slice a3 t.fFields.length c3, .string t.fOwner, .string t.fName, .int .i64 (firstZ t), .slice na t.fFields.length nc] 173)).alloc (.cells #[.int .i64 t.fKind, .int .i64 t.fLong, .int .i64 t.fBase, .slice a3 t.fFields.length c3, .string t.fOwner, .string t.fName, .int .i64 (firstZ t), .slice na t.fFields.length nc] 173))
      have B12 := Lib.hid (((Below.refl w1.heap.size w1).alloc (Nat.le_refl _) (.cells #[.int .i64 t.fKind, .int .i64 t.fLong, .int .i64 t.fBase, .slice a3 t.fFields.length c3, .string t.fOwner, .string t.fName, .int .i64 (firstZ t), .slice na t.fFields.length nc] 173)).alloc (by simp) (.cells #[.int .i64 t.fKind, .int .i64 t.fLong, .int .i64 t.fBase, .slice a3 t.fFields.length c3, .string t.fOwner, .string t.fName, .int .i64 (firstZ t), .slice na t.fFields.length nc] 173))
      have B2 := Lib.hid (B1.out.trans (B12.out.mono hs1))
      have hAt : partS.At (fun q => V6.ownBlock ≠ some q ∧ V5.ownBlock ≠ some q) ((w1.alloc (.cells #[.int .i64 t.fKind, .int .i64 t.fLong, .int .i64 t.fBase, .slice a3 t.fFields.length c3, .string t.fOwner, .string t.fName, .int .i64 (firstZ t), .slice na t.fFields.length nc] 173)).alloc (.cells #[.int .i64 t.fKind, .int .i64 t.fLong, .int .i64 t.fBase, .slice a3 t.fFields.length c3, .string t.fOwner, .string t.fName, .int .i64 (firstZ t), .slice na t.fFields.length nc] 173)) [.int .i64 t.fKind, .int .i64 t.fLong, .int .i64 t.fBase, .slice a3 t.fFields.length c3, .string t.fOwner, .string t.fName, .int .i64 (firstZ t), .slice na t.fFields.length nc] t :=
        ⟨a3, c3, na, nc, rfl, (RF1.out.below B12.out).mono (fun q hq _ => ⟨fun e => by have := (hsl q e).1; omega, fun e => by have := (hpl q e).1; omega⟩), (NR.out.below B12.out).mono (fun q hq _ => ⟨fun e => by have := (hsl q e).2; omega, fun e => by have := (hpl q e).2; omega⟩)⟩
      have HAt := Lib.hid hAt
      clear hAt NR RF1 P1 S1 B1
      obtain ⟨i0, hi, hz0, hz1, hz2⟩ := info_parts infoPart
      have Hi := Lib.hid (And.intro hi (And.intro hz0 (And.intro hz1 hz2)))
      clear hi hz0 hz1 hz2
      have hlk : (l.take k).length ≤ 24 := by rw [List.length_take]; omega
      have hlf : ((firstsZ l).take k).length ≤ 24 := by rw [List.length_take]; omega
      go_wp2_with (at_builtin; refine wpList_pushG rfl _ _ _ rfl partS 173 i0 (.agg #[.int .i64 0, .int .i64 0, .int .i64 0, .slice none 0 0, .string ByteArray.empty, .string ByteArray.empty, .int .i64 0, .slice none 0 0]) 112 Tryz.underlying171 ?q1 ?q2 ?q3 ?q4 rfl (by decide) (by omega) w.heap.size (fun q => V6.ownBlock ≠ some q) _ _ (l.take k) rfl ?q5 t [.int .i64 t.fKind, .int .i64 t.fLong, .int .i64 t.fBase, .slice a3 t.fFields.length c3, .string t.fOwner, .string t.fName, .int .i64 (firstZ t), .slice na t.fFields.length nc] _ _ rfl ?q6 ?q7 ?q8 ?q9 ?q10 ?_)
      case q1 => exact Hi.out.1
      case q2 => exact Hi.out.2.1
      case q3 => exact Hi.out.2.2.1
      case q4 => exact Hi.out.2.2.2
      case q5 => exact P2.out
      case q6 => exact fun j _ => (Y2.out.cell j).trans (by simp)
      case q7 => exact HAt.out
      case q8 =>
        intro y hy
        simp only [List.mem_cons, List.not_mem_nil, or_false] at hy
        rcases hy with rfl | rfl | rfl | rfl | rfl | rfl | rfl | rfl <;> rfl
      case q9 => omega
      case q10 => exact B2.out.size
      intro p4 w4 hown4 hg4 hfr4
      have hs2 := B2.out.size
      have B4 := Lib.hid (B2.out.grown hg4 hs2 (fun k hk => (hpl k hk).1))
      have S4 := Lib.hid (S2.out.keep (fun q hq => hg4.block q (World.ownsRow.lt S2.out q hq).2 (fun e => A0.out q e.symm hq)))
      have X4 := Lib.hid (box_grown X2.out hg4 (fun q hq => Nat.ne_of_lt (hpl2 q hq)))
      have P4 := Lib.hid hown4
      have A4 := Lib.hid (show ∀ q, p4.ownBlock = some q → V6.ownBlock ≠ some q from fun q hq hv => by
        rcases hfr4 with h | h
        · exact A0.out q (h ▸ hq) hv
        · rw [h] at hq
          injection hq with hq
          have := hsl2 q hv
          omega)
      have hp4 := OwnG.lt hown4
      have hs4 := B4.out.size
      have hsl4 : ∀ q, V6.ownBlock = some q → w.heap.size ≤ q ∧ q < w4.heap.size := World.ownsRow.lt S4.out
      obtain ⟨x0, x1, x2, x3, x4, x5, x6, x7⟩ := box8 X4.out
      clear hown4 hg4 hfr4 P2 S2 X1 X2 Y2 B2 B12 HAt
      go_wp2_with (at_builtin; refine wpList_pushIntG rfl _ _ rfl w.heap.size _ _ ((firstsZ l).take k) rfl ?q1 (firstZ t) _ _ rfl ?q2 ?q3 ?q4 ?_)
      case q1 => exact S4.out.alloc _
      case q2 => exact Box.new _ _ _
      case q3 => omega
      case q4 => simp; omega
      intro s5 w5 hown5 hg5 hfr5
      have O5 := Lib.hid (show OwnInts w5 w.heap.size s5 ((firstsZ l).take (k + 1)) by rw [show firstsZ l = l.map firstZ from rfl, Hnx.out]; exact hown5)
      have B5 := Lib.hid ((B4.out.alloc hs4 (.cells #[.int .i64 (firstZ t)] 3)).grown hg5 (by simp; omega) (fun k hk => (hsl4 k hk).1))
      have P5 := Lib.hid (show OwnG partS 173 w.heap.size (fun q => s5.ownBlock ≠ some q) w5 p4 (l.take (k + 1)) by
        rw [Htk.out]
        have hk0 := (P4.out.alloc (.cells #[.int .i64 (firstZ t)] 3)).mono (P' := fun q => V6.ownBlock ≠ some q ∧ s5.ownBlock ≠ some q) (fun q hq hl => ⟨hq, fun e => by
          rcases hfr5 with h | h
          · exact hq (h ▸ e)
          · rw [h] at e
            injection e with e
            simp at hl
            omega⟩)
        exact (hk0.keep (w' := w5) (fun q hq hl => hg5.block q hl (fun e => by
          rcases hq with h | h
          · exact h.1 e.symm
          · exact A4.out q h e.symm)) hg5.size).mono (fun q hq _ => hq.2))
      have A5 := Lib.hid (show ∀ q, p4.ownBlock = some q → s5.ownBlock ≠ some q from fun q hq hv => by
        rcases hfr5 with h | h
        · exact A4.out q hq (h ▸ hv)
        · rw [h] at hv
          injection hv with hv
          have := (hp4 q hq).2
          omega)
      clear hown5 hg5 hfr5 P4 S4 X4 A4 B4 x0 x1 x2 x3 x4 x5 x6 x7
      go_wp2_with fail
      exact ⟨⟨k + 1, by congr 1, by omega, P5.out, O5.out, A5.out, B5.out⟩, by simp [intOf]; omega⟩
    · have hpa := hown
      rw [List.take_of_length_le (show l.length ≤ k by omega)] at hpa
      obtain ⟨pa, pc, rfl, hpc, _, hpr⟩ := hpa.rows (Q := Any) (fun _ _ _ => trivial) (fun _ _ => trivial)
      have S1 := Lib.hid (show OwnInts wr w.heap.size V6 (firstsZ l) by have h := hint; rw [show (firstsZ l).take k = firstsZ l from map_all firstZ hlt] at h; exact h)
      have PR := Lib.hid hpr
      have B1 := Lib.hid hbel
      have hs1 := hbel.size
      obtain ⟨w1, hw1⟩ : ∃ y, y = wr := ⟨_, rfl⟩
      subst hw1
      clear hown hint hap hbel hpa hpr
      go_wp2_with fail
      go_loopw [6, 32] (fun v i wr => ∃ j : Nat, i = .int .i64 j ∧ j ≤ r ∧ OwnInts wr w.heap.size v (roundsZ l j) ∧ Below w1.heap.size w1 wr) (fun _ i _ => r - (intOf i).toNat)
      case atStart => exact ⟨0, rfl, by omega, S1.out, Below.refl _ _⟩
      case round =>
        obtain ⟨wo, hwo⟩ : ∃ y, y = wr := ⟨_, rfl⟩
        subst hwo
        obtain ⟨V7, hV7⟩ : ∃ x, x = u6 := ⟨_, rfl⟩
        subst hV7
        obtain ⟨j, rfl, hj, hown, hbel⟩ := hrel
        by_cases hjr : j < r
        · obtain ⟨na, nc, rfl, hnc, hnn⟩ := hown.nums
          have hal := roundsZ_len l j
          have Hstep := Lib.hid (show roundsZ l (j + 1) = l.map (behindZ (roundsZ l j)) from rfl)
          have HA := Lib.hid hnn
          have HBo := Lib.hid hbel
          have hso := hbel.size
          clear hown hbel hnn
          generalize roundsZ l j = ah at *
          have Hal := Lib.hid hal
          clear hal
          go_wp2_with fail
          go_loopw [6, 37] (fun v i wr => ∃ k : Nat, i = .int .i64 k ∧ k ≤ l.length ∧ OwnInts wr wo.heap.size v ((l.map (behindZ ah)).take k) ∧ Below wo.heap.size wo wr) (fun _ i _ => l.length - (intOf i).toNat)
          case atStart => exact ⟨0, rfl, by omega, OwnInts.nil, Below.refl _ _⟩
          case round =>
            obtain ⟨wp, hwp⟩ : ∃ y, y = wr := ⟨_, rfl⟩
            subst hwp
            obtain ⟨V8, hV8⟩ : ∃ x, x = u6 := ⟨_, rfl⟩
            subst hV8
            obtain ⟨q, rfl, hq, hown, hbel⟩ := hrel
            by_cases hlq : q < l.length
            · have hT := Hrt.out q hlq
              obtain ⟨b, o, cs, hba, _, hb1, hc1, hat⟩ := PR.out q hlq
              obtain ⟨a3, c3, an, cn, rfl, hrf, hrn2⟩ := hat
              subst hba
              have hbb := HBo.out.trans (hbel.mono hso)
              have e0 := (hbb.cell (p := ⟨b, o + q * 8 + 0, none⟩) hb1).trans (hc1 0 (by decide))
              have e1 := (hbb.cell (p := ⟨b, o + q * 8 + 1, none⟩) hb1).trans (hc1 1 (by decide))
              have e2 := (hbb.cell (p := ⟨b, o + q * 8 + 2, none⟩) hb1).trans (hc1 2 (by decide))
              have e3 := (hbb.cell (p := ⟨b, o + q * 8 + 3, none⟩) hb1).trans (hc1 3 (by decide))
              have e4 := (hbb.cell (p := ⟨b, o + q * 8 + 4, none⟩) hb1).trans (hc1 4 (by decide))
              have e5 := (hbb.cell (p := ⟨b, o + q * 8 + 5, none⟩) hb1).trans (hc1 5 (by decide))
              have e6 := (hbb.cell (p := ⟨b, o + q * 8 + 6, none⟩) hb1).trans (hc1 6 (by decide))
              have e7 := (hbb.cell (p := ⟨b, o + q * 8 + 7, none⟩) hb1).trans (hc1 7 (by decide))
              simp at e0 e1 e2 e3 e4 e5 e6 e7
              have HS := Lib.hid (fun W (h1 : Rows fieldS Any W a3 l[q].fFields) (h2 : Nums W an (namesZ l[q])) (h3 : Nums W na ah) => iSumBehind ah na nc l[q] a3 c3 an cn W (by rw [Hal.out]; exact hT) h1 h2 h3)
              have RF := Lib.hid (hrf.below hbb)
              have RN := Lib.hid (rows_nums (hrn2.below hbb))
              have RA := Lib.hid (HA.out.below hbel)
              have hvl := World.ownsRow.lt hown
              have hsp := hbel.size
              have O0 := Lib.hid hown
              have G0 := Lib.hid hbel
              have Hnx := Lib.hid (map_next (behindZ ah) hlq)
              have hlk : ((l.map (behindZ ah)).take q).length ≤ 24 := by rw [List.length_take]; omega
              clear hown hbel hrf hrn2 hT hc1 hbb
              generalize l[q] = t at *
              obtain ⟨ob, hob⟩ : ∃ ob : Obj, ob = .cells #[.int .i64 t.fKind, .int .i64 t.fLong, .int .i64 t.fBase, .slice a3 t.fFields.length c3, .string t.fOwner, .string t.fName, .int .i64 (firstZ t), .slice an t.fFields.length cn] 173 := ⟨_, rfl⟩
              have BA := Lib.hid ((Below.refl wp.heap.size wp).alloc (Nat.le_refl _) ob)
              have OA := Lib.hid (O0.out.alloc ob)
              have GA := Lib.hid (G0.out.alloc hsp ob)
              rw [hob] at BA OA GA
              clear hob O0 G0
              go_wp2_with fail
              refine (HS.out _ (RF.out.below BA.out) (RN.out.below BA.out) (RA.out.below BA.out)).mono ?_
              rintro e w5 ⟨rfl, hb5⟩
              have O5 := Lib.hid (OA.out.below hb5)
              have G5 := Lib.hid (GA.out.trans (hb5.mono GA.out.size))
              have hs5 := G5.out.size
              clear hb5 HS RF RN RA BA OA GA
              go_wp2_with (at_builtin; refine wpList_pushInt rfl _ _ rfl wo.heap.size _ _ ((l.map (behindZ ah)).take q) rfl O5.out _ _ rfl rfl ?c1 hs5 ?_)
              case c1 => omega
              intro v' w6 hown6 hg6 hlt6
              have B6 := Lib.hid (G5.out.grown hg6 hs5 (fun k hk => (hlt6 k hk).1))
              have O6 := Lib.hid (show OwnInts w6 wo.heap.size v' ((l.map (behindZ ah)).take (q + 1)) by rw [Hnx.out]; exact hown6)
              clear hown6 hg6 hlt6
              go_wp2_with fail
              exact ⟨⟨q + 1, by congr 1, by omega, O6.out, B6.out⟩, by simp [intOf]; omega⟩
            · have Ho := Lib.hid (show OwnInts wp w.heap.size V8 (roundsZ l (j + 1)) by have h := hown; rw [map_all (behindZ ah) hlq] at h; rw [Hstep.out]; exact h.lower (Nat.le_trans hs1 hso))
              have Bw := Lib.hid (HBo.out.trans (hbel.mono hso))
              clear hown hbel
              go_wp2_with fail
              exact ⟨⟨j + 1, by congr 1, by omega, Ho.out, Bw.out⟩, by simp [intOf]; omega⟩
        · obtain rfl : j = r := by omega
          have Ho := Lib.hid hown
          have Bw := Lib.hid (B1.out.trans (hbel.mono hs1))
          clear hown hbel
          go_wp2_with fail
          go_ret
          exact ⟨_, rfl, Ho.out, Bw.out⟩
end Go.Proofs.YtllddjmcemcdhaaGreat
