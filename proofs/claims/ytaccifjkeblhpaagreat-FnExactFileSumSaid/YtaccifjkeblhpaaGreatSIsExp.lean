
/-
  What is proved: the contract of the model's l4Export; what the export of a scope is as data; the contract of the model's IsExport. No condition beside what each theorem states.
-/
import Derived.Test.YtaccifjkeblhpaaGreatExpM
import Derived.RegionTactic
import Derived.Deep.RegionLaw
import Derived.Deep.RegionHeld3
import Derived.Test.YtaccifjkeblhpaaGreatSSameScope
import Derived.Test.YtaccifjkeblhpaaGreatSScopeGood
namespace Go.Proofs.YtaccifjkeblhpaaGreat
open Go.ChangeShapes Go.WideShapes Go.ChangeAt Go.RowKit
set_option maxRecDepth 100000

theorem box6x {w : World} {g : Nat} {t : TypeId} {c0 c1 c2 c3 c4 c5 : Value} (h : Box w g t #[c0, c1, c2, c3, c4, c5]) : w.cell? ⟨g, 0, none⟩ = some c0 ∧ w.cell? ⟨g, 1, none⟩ = some c1 ∧ w.cell? ⟨g, 2, none⟩ = some c2 ∧ w.cell? ⟨g, 3, none⟩ = some c3 ∧ w.cell? ⟨g, 4, none⟩ = some c4 ∧ w.cell? ⟨g, 5, none⟩ = some c5 := ⟨h.cell 0, h.cell 1, h.cell 2, h.cell 3, h.cell 4, h.cell 5⟩
theorem object_cells {w w' : World} {a : Option Addr} {os : List ObjectD} {k : Nat} (hr : Rows objectS Any w a os) (hk : k < os.length) (hb : Below w.heap.size w w') : ∃ b o a5 c5, a = some ⟨b, o, none⟩ ∧ b < w.heap.size ∧ w'.cell? ⟨b, o + k * 6, none⟩ = some (.string os[k].fName) ∧ w'.cell? ⟨b, o + k * 6 + 1, none⟩ = some (.int .i64 os[k].fKind) ∧ w'.cell? ⟨b, o + k * 6 + 2, none⟩ = some (.int .i64 os[k].fMark) ∧ w'.cell? ⟨b, o + k * 6 + 3, none⟩ = some (.int .i64 os[k].fType) ∧ w'.cell? ⟨b, o + k * 6 + 4, none⟩ = some (.int .i64 os[k].fValue) ∧ w'.cell? ⟨b, o + k * 6 + 5, none⟩ = some (.slice a5 os[k].fParams.length c5) ∧ Rows paramS Any w a5 os[k].fParams ∧ os[k].fParams.length ≤ c5 := by
  obtain ⟨b, o, cs, rfl, _, hb1, hc, hat⟩ := hr k hk
  obtain ⟨a5, c5, rfl, h5, h6⟩ := hat
  have hS : objectS.n = 6 := rfl
  have e0 := (hb.cell (p := ⟨b, o + k * 6 + 0, none⟩) hb1).trans (hc 0 (by decide))
  have e1 := (hb.cell (p := ⟨b, o + k * 6 + 1, none⟩) hb1).trans (hc 1 (by decide))
  have e2 := (hb.cell (p := ⟨b, o + k * 6 + 2, none⟩) hb1).trans (hc 2 (by decide))
  have e3 := (hb.cell (p := ⟨b, o + k * 6 + 3, none⟩) hb1).trans (hc 3 (by decide))
  have e4 := (hb.cell (p := ⟨b, o + k * 6 + 4, none⟩) hb1).trans (hc 4 (by decide))
  have e5 := (hb.cell (p := ⟨b, o + k * 6 + 5, none⟩) hb1).trans (hc 5 (by decide))
  exact ⟨b, o, a5, c5, rfl, hb1, e0, e1, e2, e3, e4, e5, h5, h6⟩
/-- What the model asks of the objects. -/
def ObsOk (l : List TypeD) (os : List ObjectD) : Prop := ∀ ob ∈ os, ob.fParams.length ≤ 4 ∧ ∀ y ∈ namesO ob, TypeOr l y
def tB (o : List Int) (t : OB) : OB := ⟨transO o t.ob, t.lo, t.hi⟩
theorem belowOnlyE {B r : Nat} {w w1 w2 : World} (h : Below B w w1) (hB : B ≤ w.heap.size) (ho : Only r w1 w2) (hr : B ≤ r) : Below B w w2 :=
  ⟨ho.os.trans h.os, ho.tape.trans h.tape, ho.output.trans h.output, Nat.le_trans h.size ho.size, fun q hq => by
    have hs := h.size
    exact (ho.block q (by omega) (fun e => by injection e with e; omega)).trans (h.block q hq)⟩
/-- Objects under way, told as such. -/
theorem rows_obS {Q : Nat → Prop} {w : World} {a : Option Addr} {M : List OB} (h : Rows obS Q w a M) : Rows objectS Q w a (M.map OB.ob) := fun i hi => by
  rw [List.length_map] at hi
  obtain ⟨b, o, cs, e, h1, h2, h3, a5, c5, rfl, h4, h5⟩ := h i hi
  obtain ⟨a6, c6, e6, k1, _, k3⟩ := OwnG.rows (Q := Q) h4 (fun q hq _ => hq.elim) (fun q hq => (h5 q hq).1)
  injection e6 with e6 _ e7
  subst e6 e7
  refine ⟨b, o, _, e, h1, h2, h3, a5, c5, ?_, ?_, ?_⟩
  · rw [List.getElem_map]
  · rw [List.getElem_map]; exact k3
  · rw [List.getElem_map]; exact k1
/-- What the model's export tells. -/
def PostExp (nm : ByteArray) (l : List TypeD) (os : List ObjectD) (w : World) (e : Ending) (w' : World) : Prop := ∃ a2 c2 a3 c3, e = .returned (.agg #[.string nm, .slice none 0 0, .slice a2 (tableZ l (orderZ l os)).length c2, .slice a3 ((shownO os).map (transO (orderZ l os))).length c3, .slice none 0 0]) ∧ ((tableZ l (orderZ l os)).length ≤ c2 ∧ c2 ≤ maxLen) ∧ (((shownO os).map (transO (orderZ l os))).length ≤ c3 ∧ c3 ≤ maxLen) ∧ Rows typeS (fun q => w.heap.size ≤ q) w' a2 (tableZ l (orderZ l os)) ∧ Rows objectS (fun q => w.heap.size ≤ q) w' a3 ((shownO os).map (transO (orderZ l os))) ∧ Below w.heap.size w w'
set_option maxHeartbeats 32000000 in
theorem sExport (nm : ByteArray) (l : List TypeD) (os : List ObjectD) (a1 a a3 a4 : Option Addr) (n1 n4 c1 c c3 c4 : Nat) (w : World) (hg : near l) (ho : os.length ≤ 1048576) (hob : ObsOk l os) (hr : Rows typeS Any w a l) (hro : Rows objectS Any w a3 os) :
    Calls Tryz.prog 22 #[.agg #[.string nm, .slice a1 n1 c1, .slice a l.length c, .slice a3 os.length c3, .slice a4 n4 c4]] w (PostExp nm l os w) := by
  have G := Lib.hid hg
  have HO := Lib.hid hob
  have HRO := Lib.hid hro
  have h24 := hg.most
  have hb0 : Below w.heap.size w (((w.alloc (.cells #[.string nm, .slice a1 n1 c1, .slice a l.length c, .slice a3 os.length c3, .slice a4 n4 c4] 33)).alloc (.cells #[.string ByteArray.empty, .slice none 0 0, .slice none 0 0, .slice none 0 0, .slice none 0 0] 33)).alloc (.cells #[.string nm, .slice none 0 0, .slice none 0 0, .slice none 0 0, .slice none 0 0] 33)) := (((Below.refl w.heap.size w).alloc (Nat.le_refl _) _).alloc (by simp) _).alloc (by simp; omega) _
  have B0 := Lib.hid hb0
  have R0 := Lib.hid (hr.below hb0)
  have HR := Lib.hid (hr.mono (Q' := fun b => b < w.heap.size) (fun _ _ h => h))
  have X0 := Lib.hid (show Box (((w.alloc (.cells #[.string nm, .slice a1 n1 c1, .slice a l.length c, .slice a3 os.length c3, .slice a4 n4 c4] 33)).alloc (.cells #[.string ByteArray.empty, .slice none 0 0, .slice none 0 0, .slice none 0 0, .slice none 0 0] 33)).alloc (.cells #[.string nm, .slice none 0 0, .slice none 0 0, .slice none 0 0, .slice none 0 0] 33)) w.heap.size 33 #[.string nm, .slice a1 n1 c1, .slice a l.length c, .slice a3 os.length c3, .slice a4 n4 c4] from ((Box.new w _ _).alloc _).alloc _)
  have O0 := Lib.hid (show Box (((w.alloc (.cells #[.string nm, .slice a1 n1 c1, .slice a l.length c, .slice a3 os.length c3, .slice a4 n4 c4] 33)).alloc (.cells #[.string ByteArray.empty, .slice none 0 0, .slice none 0 0, .slice none 0 0, .slice none 0 0] 33)).alloc (.cells #[.string nm, .slice none 0 0, .slice none 0 0, .slice none 0 0, .slice none 0 0] 33)) (w.heap.size + 1) 33 #[.string ByteArray.empty, .slice none 0 0, .slice none 0 0, .slice none 0 0, .slice none 0 0] from (Box.new' (g := w.heap.size + 1) (w.alloc (.cells #[.string nm, .slice a1 n1 c1, .slice a l.length c, .slice a3 os.length c3, .slice a4 n4 c4] 33)) _ _ (by simp)).alloc _)
  have E0 := Lib.hid (show Box (((w.alloc (.cells #[.string nm, .slice a1 n1 c1, .slice a l.length c, .slice a3 os.length c3, .slice a4 n4 c4] 33)).alloc (.cells #[.string ByteArray.empty, .slice none 0 0, .slice none 0 0, .slice none 0 0, .slice none 0 0] 33)).alloc (.cells #[.string nm, .slice none 0 0, .slice none 0 0, .slice none 0 0, .slice none 0 0] 33)) (w.heap.size + 2) 33 #[.string nm, .slice none 0 0, .slice none 0 0, .slice none 0 0, .slice none 0 0] from Box.new' (g := w.heap.size + 2) _ _ _ (by simp))
  clear hg hob hro hb0 hr
  go_enter Tryz.func22, Tryz.ntmps22
  go_wp2_with fail
  refine (sVisitAll l G.out a c _ R0.out).mono ?_
  rintro e w1 ⟨g, bt, ov, B, rfl, hgw, hbw, hBw, hv, hb⟩
  have X1 := Lib.hid (X0.out.below hb X0.out.lt)
  have hEx : Ex l a c g bt B w nm w1 ov (firstK 3) (.slice none 0 0) [] := ⟨hv, HR.out, B0.out.trans (hb.mono (by simp; omega)), O0.out.below hb O0.out.lt, E0.out.below hb E0.out.lt, OwnG.nil, (fun _ h => by simp [Value.ownBlock] at h), by simp at hgw; omega, by simp at hbw; omega, List.Pairwise.nil, fun _ h => absurd h (by simp)⟩
  have EX := Lib.hid hEx
  have x3 : _ = some (Value.slice a3 os.length c3) := X1.out.cell 3
  clear hEx hv hb B0 R0 X0 O0 E0 hgw hbw hBw
  go_wp2_with fail
  go_loopw [22] (fun i wr => ∃ (k : Nat) (ov vo : Value) (L : List OB), i = .int .i64 k ∧ k ≤ os.length ∧ Ex l a c g bt B w nm wr ov (orderZ l (os.take k)) vo L ∧ L.map OB.ob = shownO (os.take k)) (fun i _ => os.length - (intOf i).toNat)
  case atStart => exact ⟨0, ov, .slice none 0 0, [], rfl, by omega, EX.out, rfl⟩
  case round =>
    obtain ⟨wo, hwo⟩ : ∃ x, x = wr := ⟨_, rfl⟩
    subst hwo
    obtain ⟨k, ov, vo, L, rfl, hk, hex, hL⟩ := hrel
    by_cases hlt : k < os.length
    · obtain ⟨b, ro, a5, c5, rfl, hb1, e0, e1, e2, e3, e4, e5, hrp, hrc⟩ := object_cells HRO.out hlt hex.bl
      have hok := HO.out os[k] (List.getElem_mem hlt)
      have h4 := hok.1
      have HN := Lib.hid hok.2
      have Hon := Lib.hid (order_next (l := l) hlt)
      have Hsn := Lib.hid (shown_next hlt)
      have hLl : L.length ≤ os.length := by
        have h1 := congrArg List.length hL
        rw [List.length_map] at h1
        rw [h1]
        exact Nat.le_trans (List.length_filter_le _ _) (by rw [List.length_take]; omega)
      have RP := Lib.hid hrp
      have i1 : (0 : Int) ≤ (k : Int) := by omega
      have i2 : (k : Int) < (os.length : Int) := by omega
      have HL := Lib.hid hL
      have EX1 := Lib.hid hex
      clear hok hrp hL hex
      generalize os[k] = ob at *
      have TB := Lib.hid (Box.new wo 78 #[.string ob.fName, .int .i64 ob.fKind, .int .i64 ob.fMark, .int .i64 ob.fType, .int .i64 ob.fValue, .slice a5 ob.fParams.length c5])
      have EX2 := Lib.hid (EX1.out.alloc (.cells #[.string ob.fName, .int .i64 ob.fKind, .int .i64 ob.fMark, .int .i64 ob.fType, .int .i64 ob.fValue, .slice a5 ob.fParams.length c5] 78))
      by_cases hm : ob.fMark = 0
      · have ym : (ob.fMark == 0) = true := beq_iff_eq.2 hm
        have Ho := Lib.hid (show orderZ l (os.take (k + 1)) = orderZ l (os.take k) by rw [Hon.out, if_neg (fun h => h hm)])
        have Hs := Lib.hid (show shownO (os.take (k + 1)) = shownO (os.take k) by rw [Hsn.out, if_neg (fun h => h hm), List.append_nil])
        clear hm
        go_wp2_with fail
        exact ⟨⟨k + 1, ov, vo, L, by congr 1, by omega, by rw [Ho.out]; exact EX2.out, by rw [Hs.out]; exact HL.out⟩, by simp [intOf]; omega⟩
      · have ym : (ob.fMark == 0) = false := beq_eq_false_iff_ne.2 hm
        have Ho := Lib.hid (show orderZ l (os.take (k + 1)) = visitO l (orderZ l (os.take k)) ob by rw [Hon.out, if_pos hm])
        have Hs := Lib.hid (show shownO (os.take (k + 1)) = shownO (os.take k) ++ [ob] by rw [Hsn.out, if_pos hm])
        clear hm
        obtain ⟨z0, hz0⟩ : ∃ z, orderZ l (os.take k) = z := ⟨_, rfl⟩
        rw [hz0] at EX2 EX1 Ho
        clear hz0
        have hof := (World.ownsRow.lt EX1.out.v.own)
        go_wp2_with fail
        refine (sVisit l G.out.leads h24 G.out.six a c g bt B (l.length + 1 - z0.length) z0 ob.fType ov _ (Nat.le_refl _) (HN.out _ (by unfold namesO; simp)) EX2.out.v).mono ?_
        rintro e w2 ⟨rfl, ov2, hv2, hp2, hq2⟩
        have hxb := EX1.out.v.box.lt
        have hxt := EX1.out.v.to.lt
        have TB2 := Lib.hid (hp2.box TB.out (by omega) (by omega) (fun e => by have := (hof _ e).2; omega))
        have EX3 := Lib.hid (EX2.out.visit hv2 hp2 hq2)
        have hov2 : ov2.ownBlock ≠ some wo.heap.size := fun e => by
          rcases hq2 _ e with e | e
          · have := (hof _ e).2; omega
          · simp at e; omega
        have y5 : _ = some (Value.slice a5 ob.fParams.length c5) := TB2.out.cell 5
        clear hv2 hp2 hq2 TB EX2 EX1 hof e0 e1 e2 e3 e4 e5
        go_wp2_with fail
        go_loopw [36] (fun i wr => ∃ (q : Nat) (ov : Value), i = .int .i64 q ∧ q ≤ ob.fParams.length ∧ Ex l a c g bt B w nm wr ov (((namesO ob).take (q + 1)).foldl (visitZ l) z0) vo L ∧ Box wr wo.heap.size 78 #[.string ob.fName, .int .i64 ob.fKind, .int .i64 ob.fMark, .int .i64 ob.fType, .int .i64 ob.fValue, .slice a5 ob.fParams.length c5] ∧ ov.ownBlock ≠ some wo.heap.size) (fun i _ => ob.fParams.length - (intOf i).toNat)
        case atStart => exact ⟨0, ov2, rfl, by omega, EX3.out, TB2.out, hov2⟩
        case round =>
          obtain ⟨wi, hwi⟩ : ∃ x, x = wr := ⟨_, rfl⟩
          subst hwi
          obtain ⟨q, ov3, rfl, hq, hex3, htb3, hov3⟩ := hrel
          by_cases hlq : q < ob.fParams.length
          · have hnl : q + 1 < (namesO ob).length := by unfold namesO; simp; omega
            have hnq : (namesO ob)[q + 1] = ob.fParams[q].fType := by simp [namesO]
            have Hty := Lib.hid (HN.out ob.fParams[q].fType (by rw [← hnq]; exact List.getElem_mem _))
            have Hfo := Lib.hid (show ((namesO ob).take (q + 1 + 1)).foldl (visitZ l) z0 = visitZ l (((namesO ob).take (q + 1)).foldl (visitZ l) z0) ob.fParams[q].fType by rw [List.take_succ_eq_append_getElem hnl, List.foldl_append, hnq]; rfl)
            obtain ⟨pb, po, cs, hpa, _, hpb, hpc, hat⟩ := RP.out q hlq
            obtain rfl : cs = [.string ob.fParams[q].fName, .bool ob.fParams[q].fByVar, .int .i64 ob.fParams[q].fType] := hat
            have hn3 : paramS.n = 3 := rfl
            have g0 := (hex3.bl.cell (p := ⟨pb, po + q * 3 + 0, none⟩) hpb).trans (hpc 0 (by decide))
            have g1 := (hex3.bl.cell (p := ⟨pb, po + q * 3 + 1, none⟩) hpb).trans (hpc 1 (by decide))
            have g2 := (hex3.bl.cell (p := ⟨pb, po + q * 3 + 2, none⟩) hpb).trans (hpc 2 (by decide))
            simp at g0 g1 g2
            subst hpa
            have k1 : (0 : Int) ≤ (q : Int) := by omega
            have k2 : (q : Int) < (ob.fParams.length : Int) := by omega
            have EX4 := Lib.hid (hex3.alloc (.cells #[.string ob.fParams[q].fName, .bool ob.fParams[q].fByVar, .int .i64 ob.fParams[q].fType] 107))
            have TB4 := Lib.hid (htb3.alloc (.cells #[.string ob.fParams[q].fName, .bool ob.fParams[q].fByVar, .int .i64 ob.fParams[q].fType] 107))
            have hts := htb3.lt
            have hgt : g ≠ wo.heap.size ∧ bt ≠ wo.heap.size := by omega
            clear hpc hnq hnl hex3 htb3
            generalize ob.fParams[q] = p at *
            obtain ⟨z1, hz1⟩ : ∃ z, ((namesO ob).take (q + 1)).foldl (visitZ l) z0 = z := ⟨_, rfl⟩
            rw [hz1] at EX4 Hfo
            clear hz1
            go_wp2_with fail
            refine (sVisit l G.out.leads h24 G.out.six a c g bt B (l.length + 1 - z1.length) z1 p.fType ov3 _ (Nat.le_refl _) Hty.out EX4.out.v).mono ?_
            rintro e w5 ⟨rfl, ov5, hv5, hp5, hq5⟩
            have TB5 := Lib.hid (hp5.box TB4.out (fun e => hgt.1 e.symm) (fun e => hgt.2 e.symm) hov3)
            have EX5 := Lib.hid (EX4.out.visit hv5 hp5 hq5)
            have hov5 : ov5.ownBlock ≠ some wo.heap.size := fun e => by
              rcases hq5 _ e with e | e
              · exact hov3 e
              · simp at e; omega
            clear hv5 hp5 hq5 TB4 EX4
            go_wp2_with fail
            exact ⟨⟨q + 1, ov5, by congr 1, by omega, by rw [Hfo.out]; exact EX5.out, TB5.out, hov5⟩, by simp [intOf]; omega⟩
          · obtain rfl : q = ob.fParams.length := by omega
            rw [List.take_of_length_le (show (namesO ob).length ≤ ob.fParams.length + 1 by unfold namesO; simp)] at hex3
            have EXq := Lib.hid (show Ex l a c g bt B w nm wi ov3 (orderZ l (os.take (k + 1))) vo L by rw [Ho.out]; exact hex3)
            obtain ⟨q0, q1, q2, q3, q4, q5⟩ := box6x htb3
            have p0 : wi.cell? ⟨w.heap.size + 1 + 1, 3, none⟩ = some vo := EXq.out.eb.cell 3
            clear hex3 htb3 EX3 TB2
            have RPq := Lib.hid (RP.out.below EXq.out.bl)
            have hlo := EXq.out.v.hB
            have hovl := (World.ownsRow.lt EXq.out.v.own)
            have hvol := EXq.out.own.lt
            have hgB := EXq.out.v.gB
            have hg0 := EXq.out.g0
            obtain ⟨i0, hi, hz0, hz1, hz2⟩ := info_parts infoObject
            go_wp2_with fail
            go_region_law (first
              | (go_simp; go_at_call 65; refine (sOwnO ob a5 c5 _ (by omega) (by exact RPq.out.below ⟨rfl, rfl, rfl, Nat.le_refl _, fun _ _ => rfl⟩)).mono ?_; rintro e wa ⟨fa, fc, rfl, hown, hba⟩; have hbd : Below wi.heap.size wi wa := ⟨hba.os, hba.tape, hba.output, hba.size, hba.block⟩; have EXa := Lib.hid (EXq.out.below hbd); have p1 : wa.cell? ⟨w.heap.size + 1 + 1, 3, none⟩ = some vo := EXa.out.eb.cell 3; have p2 : ∀ o', (wa.alloc o').cell? ⟨w.heap.size + 1 + 1, 3, none⟩ = some vo := (fun o' => (EXa.out.alloc o').eb.cell 3); have hsa := hbd.size; have AT := Lib.hid (show ∀ o', obS.At (fun q => (B ≤ q ∧ ov3.ownBlock ≠ some q) ∧ vo.ownBlock ≠ some q) (wa.alloc o') [.string ob.fName, .int .i64 ob.fKind, .int .i64 ob.fMark, .int .i64 ob.fType, .int .i64 ob.fValue, .slice fa ob.fParams.length fc] ⟨ob, wi.heap.size, wa.heap.size⟩ from fun o' => ⟨fa, fc, rfl, hown.alloc o', fun q e => ⟨⟨⟨Nat.le_trans hlo (hown.lt q e).1, fun e' => Nat.lt_irrefl _ (Nat.lt_of_lt_of_le (hovl q e').2 (hown.lt q e).1)⟩, fun e' => Nat.lt_irrefl _ (Nat.lt_of_lt_of_le (hvol q e').2 (hown.lt q e).1)⟩, (hown.lt q e).2⟩⟩); clear hba hbd hown)
              | (refine step_pushO rfl _ _ _ rfl obS 78 i0 (.agg #[.string ByteArray.empty, .int .i64 0, .int .i64 0, .int .i64 0, .int .i64 0, .slice none 0 0]) 72 Tryz.underlying30 hi hz0 hz1 hz2 rfl (by decide) (by omega) B (fun q => B ≤ q ∧ ov3.ownBlock ≠ some q) _ _ L rfl ((EXa.out.alloc _).own) ⟨ob, wi.heap.size, wa.heap.size⟩ [.string ob.fName, .int .i64 ob.fKind, .int .i64 ob.fMark, .int .i64 ob.fType, .int .i64 ob.fValue, .slice fa ob.fParams.length fc] _ _ rfl (fun jj _ => Eq.trans ((Box.new' (g := wa.heap.size) _ 78 #[.string ob.fName, .int .i64 ob.fKind, .int .i64 ob.fMark, .int .i64 ob.fType, .int .i64 ob.fValue, .slice fa ob.fParams.length fc] (by simp)).cell jj) (by simp)) (by exact AT.out _) (fun y hy => by (simp only [List.mem_cons, List.not_mem_nil, or_false] at hy; rcases hy with rfl | rfl | rfl | rfl | rfl | rfl <;> rfl)) (by omega) (by simp; omega) ?_; intro va vn vc w4 hown4 hg4 hv4; have E4 := Lib.hid (show Box w4 (w.heap.size + 2) 33 #[.string nm, .slice none 0 0, .slice none 0 0, vo, .slice none 0 0] from (hg4.block _ ((EXa.out.alloc _).eb.lt) (fun e => by have := (hvol _ e.symm).1; omega)).trans (EXa.out.alloc _).eb); have EX4 := Lib.hid ((EXa.out.alloc _).push hown4 hg4 hv4 (fun y hy => EXq.out.hi y hy) (by simp)); have df : ∀ i, w4.frozen? ⟨w.heap.size + 1 + 1, i, none⟩ = false := E4.out.free; have d3 : w4.cell? ⟨w.heap.size + 1 + 1, 3, none⟩ = some vo := E4.out.cell 3)
              | fail)
            all_goals
              have EX5 := Lib.hid (show Ex l a c g bt B w nm (w4.setCell ⟨w.heap.size + 1 + 1, 3, none⟩ (.slice va vn vc)) ov3 (orderZ l (os.take (k + 1))) (.slice va vn vc) (L ++ [⟨ob, wi.heap.size, wa.heap.size⟩]) from EX4.out)
              generalize w4.setCell ⟨w.heap.size + 1 + 1, 3, none⟩ (.slice va vn vc) = WE at *
              go_wp2_with fail
              exact ⟨⟨k + 1, ov3, .slice va vn vc, L ++ [⟨ob, wi.heap.size, wa.heap.size⟩], by congr 1, by omega, EX5.out, by rw [List.map_append, HL.out, Hs.out]; rfl⟩, by simp [intOf]; omega⟩
    · obtain rfl : k = os.length := by omega
      rw [List.take_length] at hex hL
      obtain ⟨OM, OW, OH⟩ := orderZ_whole G.out.1 G.out.leads (fun ob h => (HO.out ob h).2)
      obtain ⟨o, hoo⟩ : ∃ o, orderZ l os = o := ⟨_, rfl⟩
      rw [hoo] at hex OM OW OH
      have Hoo := Lib.hid hoo
      have Hom := Lib.hid OM
      have How := Lib.hid OW
      have Hoh := Lib.hid OH
      obtain ⟨va, vc, rfl, _, _, _⟩ := OwnG.rows (Q := Any) hex.own (fun _ _ _ => trivial) (fun _ _ => trivial)
      have EX9 := Lib.hid hex
      have HL9 := Lib.hid hL
      have hLl : L.length ≤ 1048576 := by
        have h1 := congrArg List.length hL
        rw [List.length_map] at h1
        rw [h1]
        exact Nat.le_trans (List.length_filter_le _ _) ho
      have p3 : wo.cell? ⟨w.heap.size + 1 + 1, 3, none⟩ = some (Value.slice va L.length vc) := EX9.out.eb.cell 3
      clear hex hL hoo OM OW OH
      go_wp2_with fail
      go_loopw [56] (fun i wr => ∃ (q : Nat), i = .int .i64 q ∧ q ≤ L.length ∧ Ex l a c g bt B w nm wr ov o (.slice va L.length vc) (doneK (tB o) q L)) (fun i _ => L.length - (intOf i).toNat)
      case atStart => exact ⟨0, rfl, by omega, by rw [doneK_zero]; exact EX9.out⟩
      case round =>
        obtain ⟨wl, hwl⟩ : ∃ x, x = wr := ⟨_, rfl⟩
        subst hwl
        obtain ⟨q, rfl, hq, hex⟩ := hrel
        by_cases hlq : q < L.length
        · have hdl := doneK_len (f := tB o) hq
          have hde := doneK_at (f := tB o) hlq
          obtain ⟨rb, rc, cs, hva, hrB, hrl, hat, hcs, hfr⟩ := OwnG.elem hex.own (k := q) (by rw [hdl]; exact hlq)
          rw [hde] at hat
          injection hva with hva hvn hvc
          clear hvn
          subst hva hvc
          have Hmem := Lib.hid (show L[q].ob ∈ shownO os by rw [← HL9.out]; exact List.mem_map_of_mem (List.getElem_mem hlq))
          have Hlq := Lib.hid (show doneK (tB o) (q + 1) L = (doneK (tB o) q L).set q (tB o L[q]) from (doneK_set hlq).symm)
          obtain ⟨⟨ob, lo, hi⟩, ht⟩ : ∃ t : OB, L[q] = t := ⟨_, rfl⟩
          rw [ht] at hat hde Hmem Hlq
          obtain ⟨a5, c5, rfl, hp1, hp2⟩ := hat
          have hnm := Lib.hid (Hoh.out ob Hmem.out)
          have h4 := (HO.out ob (List.mem_filter.1 Hmem.out).1).1
          have hS : obS.n = 6 := rfl
          have e0 := hcs 0 (by decide)
          have e1 := hcs 1 (by decide)
          have e2 := hcs 2 (by decide)
          have e3 := hcs 3 (by decide)
          have e4 := hcs 4 (by decide)
          have e5 := hcs 5 (by decide)
          rw [hS] at e0 e1 e2 e3 e4 e5
          simp at e0 e1 e2 e3 e4 e5
          have i1 : (0 : Int) ≤ (q : Int) := by omega
          have i2 : (q : Int) < (L.length : Int) := by omega
          have TB := Lib.hid (Box.new wl 78 #[.string ob.fName, .int .i64 ob.fKind, .int .i64 ob.fMark, .int .i64 ob.fType, .int .i64 ob.fValue, .slice a5 ob.fParams.length c5])
          have EX1 := Lib.hid (hex.alloc (.cells #[.string ob.fName, .int .i64 ob.fKind, .int .i64 ob.fMark, .int .i64 ob.fType, .int .i64 ob.fValue, .slice a5 ob.fParams.length c5] 78))
          have HDE := Lib.hid hde
          have HP1 := Lib.hid hp1
          have HP2 := Lib.hid hp2
          have hal : Below wl.heap.size wl (wl.alloc (.cells #[.string ob.fName, .int .i64 ob.fKind, .int .i64 ob.fMark, .int .i64 ob.fType, .int .i64 ob.fValue, .slice a5 ob.fParams.length c5] 78)) := (Below.refl _ _).alloc (Nat.le_refl _) _
          have hs1 : wl.heap.size < (wl.alloc (.cells #[.string ob.fName, .int .i64 ob.fKind, .int .i64 ob.fMark, .int .i64 ob.fType, .int .i64 ob.fValue, .slice a5 ob.fParams.length c5] 78)).heap.size := by simp
          have p4 : (wl.alloc (.cells #[.string ob.fName, .int .i64 ob.fKind, .int .i64 ob.fMark, .int .i64 ob.fType, .int .i64 ob.fValue, .slice a5 ob.fParams.length c5] 78)).cell? ⟨w.heap.size + 1 + 1, 3, none⟩ = some (Value.slice (some ⟨rb, 0, none⟩) L.length vc) := EX1.out.eb.cell 3
          obtain ⟨q0, q1, q2, q3, q4, q5⟩ := box6x TB.out
          have fr : ∀ i, (wl.alloc (.cells #[.string ob.fName, .int .i64 ob.fKind, .int .i64 ob.fMark, .int .i64 ob.fType, .int .i64 ob.fValue, .slice a5 ob.fParams.length c5] 78)).frozen? ⟨rb, i, none⟩ = false := fun i => (hal.frozen (p := ⟨rb, i, none⟩) hrl).trans (hfr i)
          have e3' := (hal.cell (p := ⟨rb, q * 6 + 3, none⟩) hrl).trans e3
          have e5' := (hal.cell (p := ⟨rb, q * 6 + 5, none⟩) hrl).trans e5
          have HTY := Lib.hid (hnm.out ob.fType (by unfold namesO; simp))
          have hhi : hi ≤ wl.heap.size := by
            have h := hex.hi _ (List.getElem_mem (show q < (doneK (tB o) q L).length by rw [hdl]; exact hlq))
            rw [hde] at h
            exact h
          clear hcs ht hde hex hp1 hp2 p3
          go_wp2_with fail
          clear e0 e1 e2 e3 e4 e5 hfr hal
          generalize wl.alloc (.cells #[.string ob.fName, .int .i64 ob.fKind, .int .i64 ob.fMark, .int .i64 ob.fType, .int .i64 ob.fValue, .slice a5 ob.fParams.length c5] 78) = wq at *
          have hwB : w.heap.size + 1 + 1 < rb := by
            have h1 := EX1.out.g0
            have h2 := EX1.out.v.gB
            omega
          have n1 : (wq.setCell ⟨rb, q * 6 + 3, none⟩ (.int .i64 (numZ o ob.fType))).cell? ⟨w.heap.size + 1 + 1, 3, none⟩ = some (Value.slice (some ⟨rb, 0, none⟩) L.length vc) := (World.cell?_setCell_far wq _ _ _ (by show rb ≠ w.heap.size + 1 + 1; omega)).trans p4
          have n2 : (wq.setCell ⟨rb, q * 6 + 3, none⟩ (.int .i64 (numZ o ob.fType))).cell? ⟨wl.heap.size, 3, none⟩ = some (.int .i64 ob.fType) := (World.cell?_setCell_far wq _ _ _ (by show rb ≠ wl.heap.size; omega)).trans q3
          go_region_held3 (fun w' => w'.cell? ⟨w.heap.size + 1 + 1, 3, none⟩ = some (Value.slice (some ⟨rb, 0, none⟩) L.length vc) ∧ w'.cell? ⟨wl.heap.size, 3, none⟩ = some (.int .i64 ob.fType))
            (first | assumption | exact ⟨p4, q3⟩ | exact ⟨n1, n2⟩)
            (first | (go_at_call 66; refine (sNumV l h24 _ c g bt B _ o ob.fType _ HTY.out (by exact EX1.out.v.below ⟨rfl, rfl, rfl, Nat.le_refl _, fun _ _ => rfl⟩)).mono ?_; rintro e wa ⟨rfl, rfl⟩))
          clear n1 n2
          all_goals
            have EX2 := Lib.hid (show Ex l _ c g bt B w nm ((wq.setCell ⟨rb, q * 6 + 3, none⟩ (.int .i64 (numZ o ob.fType))).drew) ov o (.slice (some ⟨rb, 0, none⟩) L.length vc) ((doneK (tB o) q L).set q ⟨⟨ob.fName, ob.fKind, ob.fMark, numZ o ob.fType, ob.fValue, ob.fParams⟩, lo, hi⟩) from by
              have h := EX1.out.setType (i := q) (by rw [hdl]; exact hlq) (numZ o ob.fType)
              simp only [HDE.out] at h
              exact h.below ⟨rfl, rfl, rfl, Nat.le_refl _, fun _ _ => rfl⟩)
            have TB2 := Lib.hid (show Box ((wq.setCell ⟨rb, q * 6 + 3, none⟩ (.int .i64 (numZ o ob.fType))).drew) wl.heap.size 78 #[.string ob.fName, .int .i64 ob.fKind, .int .i64 ob.fMark, .int .i64 ob.fType, .int .i64 ob.fValue, .slice a5 ob.fParams.length c5] from TB.out.only ((Only.refl rb wq).set (q * 6 + 3) _).drew (by omega))
            have hc5 : ((wq.setCell ⟨rb, q * 6 + 3, none⟩ (.int .i64 (numZ o ob.fType))).drew).cell? ⟨rb, q * 6 + 5, none⟩ = some (.slice a5 ob.fParams.length c5) := by
              refine Eq.trans (World.cell?_setCell_other wq _ _ _ ?_) e5'
              intro e
              injection e with _ e
              omega
            have hs2 : wl.heap.size < ((wq.setCell ⟨rb, q * 6 + 3, none⟩ (.int .i64 (numZ o ob.fType))).drew).heap.size := by
              show wl.heap.size < (wq.setCell ⟨rb, q * 6 + 3, none⟩ (.int .i64 (numZ o ob.fType))).heap.size
              simp [World.setCell]; exact hs1
            generalize ((wq.setCell ⟨rb, q * 6 + 3, none⟩ (.int .i64 (numZ o ob.fType))).drew) = w2 at *
            clear q0 q1 q2 q3 q4 q5 p4 fr e3' e5' EX1 TB
            have y5 : w2.cell? ⟨wl.heap.size, 5, none⟩ = some (.slice a5 ob.fParams.length c5) := TB2.out.cell 5
            go_wp2_with fail
            go_loopw [73] (fun i wr => ∃ (m : Nat), i = .int .i64 m ∧ m ≤ ob.fParams.length ∧ Ex l a c g bt B w nm wr ov o (.slice (some ⟨rb, 0, none⟩) L.length vc) ((doneK (tB o) q L).set q ⟨⟨ob.fName, ob.fKind, ob.fMark, numZ o ob.fType, ob.fValue, doneK (transP o) m ob.fParams⟩, lo, hi⟩) ∧ Box wr wl.heap.size 78 #[.string ob.fName, .int .i64 ob.fKind, .int .i64 ob.fMark, .int .i64 ob.fType, .int .i64 ob.fValue, .slice a5 ob.fParams.length c5] ∧ wr.cell? ⟨rb, q * 6 + 5, none⟩ = some (.slice a5 ob.fParams.length c5) ∧ wl.heap.size < wr.heap.size) (fun i _ => ob.fParams.length - (intOf i).toNat)
            case atStart => exact ⟨0, rfl, by omega, by rw [doneK_zero]; exact EX2.out, TB2.out, hc5, hs2⟩
            case round =>
              obtain ⟨wi, hwi⟩ : ∃ x, x = wr := ⟨_, rfl⟩
              subst hwi
              obtain ⟨m, rfl, hm, hex3, htb3, hc3, hs3⟩ := hrel
              by_cases hlm : m < ob.fParams.length
              · have hdm := doneK_len (f := transP o) hm
                have hdn := doneK_at (f := transP o) hlm
                have hql : q < ((doneK (tB o) q L).set q ⟨⟨ob.fName, ob.fKind, ob.fMark, numZ o ob.fType, ob.fValue, doneK (transP o) m ob.fParams⟩, lo, hi⟩).length := by rw [List.length_set, hdl]; exact hlq
                obtain ⟨rb2, rc2, cs2, hva2, _, hrl2, hat2, hcs2, hfr2⟩ := OwnG.elem hex3.own (k := q) hql
                rw [List.getElem_set_self] at hat2
                injection hva2 with hva2 hvn2 hvc2
                injection hva2 with hva2
                injection hva2 with hva2
                subst hva2
                obtain ⟨a6, c6, rfl, r1, r2⟩ := hat2
                have hc6 := hcs2 5 (by decide)
                rw [show obS.n = 6 from rfl, hc3] at hc6
                injection hc6 with hc6
                injection hc6 with e1 e2 e3
                subst e1 e3
                have r1' : OwnG paramS 107 lo Nowhere wi (.slice a5 ob.fParams.length c5) (doneK (transP o) m ob.fParams) := by
                  have h := r1
                  simp only [hdm] at h
                  exact h
                obtain ⟨pb, pc, ps, hpv, _, hpl, hpat, hpcs, hpfr⟩ := OwnG.elem r1' (k := m) (by rw [hdm]; exact hlm)
                rw [hdn] at hpat
                injection hpv with hpa hpn9 hpc9
                subst hpa
                clear hpn9 hpc9
                have hpr := r2 pb (by exact ownBlock_slice _ _ _)
                obtain rfl : ps = [.string ob.fParams[m].fName, .bool ob.fParams[m].fByVar, .int .i64 ob.fParams[m].fType] := hpat
                have hn3 : paramS.n = 3 := rfl
                have g0 := hpcs 0 (by decide)
                have g1 := hpcs 1 (by decide)
                have g2 := hpcs 2 (by decide)
                rw [hn3] at g0 g1 g2
                simp at g0 g1 g2
                have hpB : B ≤ pb := hpr.1.1.1
                have hpb : pb ≠ wl.heap.size ∧ pb ≠ rb := by
                  have h1 := hpr.2
                  have h2 := hpr.1.2
                  simp only at h1
                  exact ⟨by omega, h2⟩
                have k1 : (0 : Int) ≤ (m : Int) := by omega
                have k2 : (m : Int) < (ob.fParams.length : Int) := by omega
                have HTP := Lib.hid (hnm.out ob.fParams[m].fType (by unfold namesO; exact List.mem_cons_of_mem _ (List.mem_map_of_mem (List.getElem_mem hlm))))
                have Hds := Lib.hid (show (doneK (transP o) m ob.fParams).set m (transP o ob.fParams[m]) = doneK (transP o) (m + 1) ob.fParams from doneK_set hlm)
                have Hdn := Lib.hid hdn
                have EX3 := Lib.hid hex3
                have TB3 := Lib.hid htb3
                have Hql := Lib.hid hql
                have Hdm := Lib.hid hdm
                clear hcs2 hfr2 hvn2 hvc2 e2 r1 r1' r2 hpcs hdn hex3 htb3 hql hdm hpr
                obtain ⟨p, hp⟩ : ∃ p, ob.fParams[m] = p := ⟨_, rfl⟩
                rw [hp] at g0 g1 g2 HTP Hds Hdn
                clear hp
                have hal : Below wi.heap.size wi (wi.alloc (.cells #[.string p.fName, .bool p.fByVar, .int .i64 p.fType] 107)) := (Below.refl _ _).alloc (Nat.le_refl _) _
                have EX4 := Lib.hid (EX3.out.alloc (.cells #[.string p.fName, .bool p.fByVar, .int .i64 p.fType] 107))
                have TB4 := Lib.hid (TB3.out.alloc (.cells #[.string p.fName, .bool p.fByVar, .int .i64 p.fType] 107))
                have p4 : (wi.alloc (.cells #[.string p.fName, .bool p.fByVar, .int .i64 p.fType] 107)).cell? ⟨w.heap.size + 1 + 1, 3, none⟩ = some (Value.slice (some ⟨rb, 0, none⟩) L.length vc) := EX4.out.eb.cell 3
                have hpwi : pb < wi.heap.size := hpl
                have p5 : (wi.alloc (.cells #[.string p.fName, .bool p.fByVar, .int .i64 p.fType] 107)).cell? ⟨wi.heap.size, 2, none⟩ = some (.int .i64 p.fType) := (Box.new wi 107 #[.string p.fName, .bool p.fByVar, .int .i64 p.fType]).cell 2
                have hc4 := (hal.cell (p := ⟨rb, q * 6 + 5, none⟩) hrl2).trans hc3
                have fr : ∀ i, (wi.alloc (.cells #[.string p.fName, .bool p.fByVar, .int .i64 p.fType] 107)).frozen? ⟨pb, i, none⟩ = false := fun i => (hal.frozen (p := ⟨pb, i, none⟩) hpl).trans (hpfr i)
                have g3 := (hal.cell (p := ⟨pb, m * 3 + 2, none⟩) hpl).trans g2
                have hs4 : wl.heap.size < (wi.alloc (.cells #[.string p.fName, .bool p.fByVar, .int .i64 p.fType] 107)).heap.size := by simp; omega
                go_wp2_with fail
                clear g0 g1 g2 hpfr hc3
                generalize wi.alloc (.cells #[.string p.fName, .bool p.fByVar, .int .i64 p.fType] 107) = wp at *
                have hwB2 : w.heap.size + 1 + 1 < pb ∧ wi.heap.size ≠ pb := by
                  have h1 := EX4.out.g0
                  have h2 := EX4.out.v.gB
                  exact ⟨by omega, by omega⟩
                have n1 : (wp.setCell ⟨pb, m * 3 + 2, none⟩ (.int .i64 (numZ o p.fType))).cell? ⟨w.heap.size + 1 + 1, 3, none⟩ = some (Value.slice (some ⟨rb, 0, none⟩) L.length vc) := (World.cell?_setCell_far wp _ _ _ (by show pb ≠ w.heap.size + 1 + 1; omega)).trans p4
                have n2 : (wp.setCell ⟨pb, m * 3 + 2, none⟩ (.int .i64 (numZ o p.fType))).cell? ⟨wi.heap.size, 2, none⟩ = some (.int .i64 p.fType) := (World.cell?_setCell_far wp _ _ _ (by show pb ≠ wi.heap.size; omega)).trans p5
                have n3 : (wp.setCell ⟨pb, m * 3 + 2, none⟩ (.int .i64 (numZ o p.fType))).cell? ⟨rb, q * 6 + 5, none⟩ = some (.slice (some ⟨pb, 0, none⟩) ob.fParams.length c5) := (World.cell?_setCell_far wp _ _ _ hpb.2).trans hc4
                go_region_held3 (fun w' => w'.cell? ⟨w.heap.size + 1 + 1, 3, none⟩ = some (Value.slice (some ⟨rb, 0, none⟩) L.length vc) ∧ w'.cell? ⟨wi.heap.size, 2, none⟩ = some (.int .i64 p.fType) ∧ w'.cell? ⟨rb, q * 6 + 5, none⟩ = some (.slice (some ⟨pb, 0, none⟩) ob.fParams.length c5))
                  (first | assumption | exact ⟨p4, p5, hc4⟩ | exact ⟨n1, n2, n3⟩)
                  (first | (go_at_call 66; refine (sNumV l h24 _ c g bt B _ o p.fType _ HTP.out (by exact EX4.out.v.below ⟨rfl, rfl, rfl, Nat.le_refl _, fun _ _ => rfl⟩)).mono ?_; rintro e wa ⟨rfl, rfl⟩))
                clear n1 n2 n3
                all_goals
                  have EX5 := Lib.hid (show Ex l _ c g bt B w nm ((wp.setCell ⟨pb, m * 3 + 2, none⟩ (.int .i64 (numZ o p.fType))).drew) ov o (.slice (some ⟨rb, 0, none⟩) L.length vc) ((doneK (tB o) q L).set q ⟨⟨ob.fName, ob.fKind, ob.fMark, numZ o ob.fType, ob.fValue, doneK (transP o) (m + 1) ob.fParams⟩, lo, hi⟩) from by
                    have h := EX4.out.setParam (i := q) Hql.out hc4 (q := m) (by simp only [List.getElem_set_self]; rw [Hdm.out]; exact hlm) (numZ o p.fType)
                    simp only [List.getElem_set_self, Hdn.out, List.set_set] at h
                    rw [← Hds.out]
                    exact h.below ⟨rfl, rfl, rfl, Nat.le_refl _, fun _ _ => rfl⟩)
                  have TB5 := Lib.hid (show Box ((wp.setCell ⟨pb, m * 3 + 2, none⟩ (.int .i64 (numZ o p.fType))).drew) wl.heap.size 78 #[.string ob.fName, .int .i64 ob.fKind, .int .i64 ob.fMark, .int .i64 ob.fType, .int .i64 ob.fValue, .slice (some ⟨pb, 0, none⟩) ob.fParams.length c5] from TB4.out.only ((Only.refl pb wp).set (m * 3 + 2) _).drew (Ne.symm hpb.1))
                  have hc5' : ((wp.setCell ⟨pb, m * 3 + 2, none⟩ (.int .i64 (numZ o p.fType))).drew).cell? ⟨rb, q * 6 + 5, none⟩ = some (.slice (some ⟨pb, 0, none⟩) ob.fParams.length c5) := Eq.trans (World.cell?_setCell_far wp _ _ _ hpb.2) hc4
                  have hs5 : wl.heap.size < ((wp.setCell ⟨pb, m * 3 + 2, none⟩ (.int .i64 (numZ o p.fType))).drew).heap.size := by
                    show wl.heap.size < (wp.setCell ⟨pb, m * 3 + 2, none⟩ (.int .i64 (numZ o p.fType))).heap.size
                    simp [World.setCell]; exact hs4
                  generalize ((wp.setCell ⟨pb, m * 3 + 2, none⟩ (.int .i64 (numZ o p.fType))).drew) = w5 at *
                  clear p4 p5 hc4 fr g3 EX4 TB4
                  go_wp2_with fail
                  exact ⟨⟨m + 1, by congr 1, by omega, EX5.out, TB5.out, hc5', hs5⟩, by simp [intOf]; omega⟩
              · obtain rfl : m = ob.fParams.length := by omega
                have EX6 := Lib.hid (show Ex l a c g bt B w nm wi ov o (.slice (some ⟨rb, 0, none⟩) L.length vc) (doneK (tB o) (q + 1) L) from by
                  rw [Hlq.out]
                  have h := hex3
                  rw [doneK_all] at h
                  exact h)
                clear hex3 htb3 hc3
                go_wp2_with fail
                exact ⟨⟨q + 1, by congr 1, by omega, EX6.out⟩, by simp [intOf]; omega⟩
        · obtain rfl : q = L.length := by omega
          rw [doneK_all] at hex
          have EX7 := Lib.hid hex
          clear hex EX9 p3
          go_wp2_with fail
          refine (sTable l h24 (fun t ht => G.out.six t ht) a c g bt B ov o _ How.out EX7.out.v).mono ?_
          rintro e w9 ⟨v9, rfl, hot, hb9⟩
          have EX8 := Lib.hid (EX7.out.below hb9)
          have hsz := EX7.out.bl.size
          obtain ⟨ta, tc, rfl, ht1, ht2, htr⟩ := OwnG.rows (Q := fun q => w.heap.size + 3 ≤ q) hot (fun q hq _ => by have := EX7.out.ob.lt; have := EX7.out.eb.lt; omega) (fun q hq => by have := (hot.lt q hq).1; have := EX7.out.eb.lt; omega)
          have hgB := EX8.out.v.gB
          have hg0 := EX8.out.g0
          obtain ⟨oa, oc, hov, ho1, ho2, hor⟩ := OwnG.rows (Q := fun q => w.heap.size + 3 ≤ q) EX8.out.own (fun q hq _ => by omega) (fun q hq => by have := (EX8.out.own.lt q hq).1; omega)
          have HT := Lib.hid htr
          have HW := Lib.hid (rows_obS hor)
          have hmm : (L.map (tB o)).map OB.ob = (shownO os).map (transO o) := by
            rw [← HL9.out, List.map_map, List.map_map]
            rfl
          rw [hmm] at HW
          have hml : L.length = ((shownO os).map (transO o)).length := by rw [List.length_map, ← HL9.out, List.length_map]
          injection hov with hov1 hov2 hov3
          subst hov1 hov3
          clear hov2
          have HML := Lib.hid hml
          clear hml hmm
          rw [List.length_map] at ho1
          have y2 : _ = some (Value.slice none 0 0) := EX8.out.eb.cell 2
          have fy := EX8.out.eb.free 2
          have EB := Lib.hid (show Box (w9.setCell ⟨w.heap.size + 1 + 1, 2, none⟩ (.slice ta (tableZ l o).length tc)) (w.heap.size + 1 + 1) 33 #[.string nm, .slice none 0 0, .slice ta (tableZ l o).length tc, .slice va L.length vc, .slice none 0 0] from EX8.out.eb.set 2 _)
          have OB1 := Lib.hid (show Box (w9.setCell ⟨w.heap.size + 1 + 1, 2, none⟩ (.slice ta (tableZ l o).length tc)) (w.heap.size + 1) 33 #[.string ByteArray.empty, .slice none 0 0, .slice none 0 0, .slice none 0 0, .slice none 0 0] from EX8.out.ob.only ((Only.refl (w.heap.size + 2) w9).set 2 (.slice ta (tableZ l o).length tc)) (by omega))
          have x0 : _ = some (Value.string nm) := EB.out.cell 0
          have x1 : _ = some (Value.slice none 0 0) := EB.out.cell 1
          have x2 : _ = some (Value.slice ta (tableZ l o).length tc) := EB.out.cell 2
          have x3 : _ = some (Value.slice va L.length vc) := EB.out.cell 3
          have x4 : _ = some (Value.slice none 0 0) := EB.out.cell 4
          have fr := OB1.out.free
          have zz0 : _ = some (Value.string ByteArray.empty) := OB1.out.cell 0
          have zz1 : _ = some (Value.slice none 0 0) := OB1.out.cell 1
          have zz2 : _ = some (Value.slice none 0 0) := OB1.out.cell 2
          have zz3 : _ = some (Value.slice none 0 0) := OB1.out.cell 3
          have zz4 : _ = some (Value.slice none 0 0) := OB1.out.cell 4
          clear hot htr hor
          go_wp2_with fail
          refine bodyPost_ret (results_one rfl Tryz.underlying33 rfl _ _ (w.heap.size + 1) #[.string nm, .slice none 0 0, .slice ta (tableZ l o).length tc, .slice va L.length vc, .slice none 0 0] rfl 33 ?qbox 5 (by kernel_rfl) rfl) rfl ?_
          case qbox => exact ((((OB1.out.set 0 _).set 1 _).set 2 _).set 3 _).set 4 _
          have hf1 : ∀ v, Only (w.heap.size + 2) w9 (w9.setCell ⟨w.heap.size + 1 + 1, 2, none⟩ v) := fun v => (Only.refl (w.heap.size + 2) w9).set 2 v
          have hof : ∀ v v0 v1 v2 v3 v4, Only (w.heap.size + 1) (w9.setCell ⟨w.heap.size + 1 + 1, 2, none⟩ v) ((((((w9.setCell ⟨w.heap.size + 1 + 1, 2, none⟩ v).setCell ⟨w.heap.size + 1, 0, none⟩ v0).setCell ⟨w.heap.size + 1, 1, none⟩ v1).setCell ⟨w.heap.size + 1, 2, none⟩ v2).setCell ⟨w.heap.size + 1, 3, none⟩ v3).setCell ⟨w.heap.size + 1, 4, none⟩ v4) := fun v v0 v1 v2 v3 v4 => (((((Only.refl _ _).set 0 _).set 1 _).set 2 _).set 3 _).set 4 _
          have kp : ∀ v v0 v1 v2 v3 v4 q, w.heap.size + 3 ≤ q → q < w9.heap.size → ((((((w9.setCell ⟨w.heap.size + 1 + 1, 2, none⟩ v).setCell ⟨w.heap.size + 1, 0, none⟩ v0).setCell ⟨w.heap.size + 1, 1, none⟩ v1).setCell ⟨w.heap.size + 1, 2, none⟩ v2).setCell ⟨w.heap.size + 1, 3, none⟩ v3).setCell ⟨w.heap.size + 1, 4, none⟩ v4).heap[q]? = w9.heap[q]? := fun v v0 v1 v2 v3 v4 q hq hl =>
            ((hof v v0 v1 v2 v3 v4).block q (Nat.lt_of_lt_of_le hl (hf1 v).size) (fun e => by injection e with e; omega)).trans ((hf1 v).block q hl (fun e => by injection e with e; omega))
          show PostExp nm l os w _ _
          unfold PostExp
          rw [Hoo.out]
          refine ⟨ta, tc, va, vc, by rw [← HML.out], ⟨ht1, ht2⟩, ⟨by rw [← HML.out]; exact ho1, ho2⟩, (Rows.keep HT.out (fun q hq hl => kp _ _ _ _ _ _ q hq hl) (Nat.le_trans (hf1 _).size (hof _ _ _ _ _ _).size)).mono (fun q hq _ => by omega), (Rows.keep HW.out (fun q hq hl => kp _ _ _ _ _ _ q hq hl) (Nat.le_trans (hf1 _).size (hof _ _ _ _ _ _).size)).mono (fun q hq _ => by omega), ?_⟩
          exact belowOnlyE (belowOnlyE EX8.out.bl (Nat.le_refl _) (hf1 _) (by omega)) (Nat.le_refl _) (hof _ _ _ _ _ _) (by omega)
end Go.Proofs.YtaccifjkeblhpaaGreat

namespace Go.Proofs.YtaccifjkeblhpaaGreat
open Go.ChangeShapes Go.WideShapes Go.ChangeAt Go.RowKit
set_option maxRecDepth 100000

/-- The export of a scope. -/
def expD (s : ScopeD) : ScopeD := ⟨s.fName, [], tableZ s.fTypes (orderZ s.fTypes s.fObjects), (shownO s.fObjects).map (transO (orderZ s.fTypes s.fObjects)), []⟩
theorem obs_ok {s : ScopeD} (h : scopeP s) : ObsOk s.fTypes s.fObjects := fun ob hob => by
  have h3 := h.2.2.1.1.three
  have ho := h.2.2.2.1.2.1 ob hob
  have one : ∀ y : Int, -1 ≤ y → y < (s.fTypes.length : Int) → TypeOr s.fTypes y := fun y y0 y1 => by
    by_cases hy : y < 0
    · exact .inl hy
    · obtain ⟨k, rfl⟩ := Int.eq_ofNat_of_zero_le (show 0 ≤ y by omega)
      exact .inr ⟨k, rfl, by omega⟩
  rcases ho.2.2 with ⟨_, q1, _, q3⟩ | ⟨_, q1, _, q3⟩ | ⟨_, q1, _, q3⟩
  · have hp : ob.fParams = [] := List.eq_nil_of_length_eq_zero q3
    refine ⟨by omega, fun y hy => ?_⟩
    unfold namesO at hy
    rw [hp] at hy
    rw [List.mem_singleton.1 hy]
    exact one _ (by omega) (by omega)
  · have hp : ob.fParams = [] := List.eq_nil_of_length_eq_zero q3
    refine ⟨by omega, fun y hy => ?_⟩
    unfold namesO at hy
    rw [hp] at hy
    rw [List.mem_singleton.1 hy]
    exact one _ (by omega) (by omega)
  · refine ⟨q3.1, fun y hy => ?_⟩
    unfold namesO at hy
    rcases List.mem_cons.1 hy with rfl | hy
    · exact one _ q1.1 q1.2
    · obtain ⟨p, hp, rfl⟩ := List.mem_map.1 hy
      have h2 := q3.2.1 p hp
      unfold parTyped at h2
      exact one _ (by omega) (by omega)
theorem wtL_map {T U : Type} (f : T → Nat) (g : U → Nat) (m : T → U) (h : ∀ x, g (m x) ≤ f x) : ∀ l : List T, wtL g (l.map m) ≤ wtL f l
  | [] => Nat.le_refl _
  | x :: l => by
    have ih := wtL_map f g m h l
    have hx := h x
    unfold wtL at *
    simp only [List.map_cons, List.length_cons, List.sum_cons]
    omega
theorem transF_wt (o : List Int) (f : FieldD) : (transF o f).wt ≤ f.wt := by
  unfold transF FieldD.wt
  by_cases h : f.fMark = 0
  · simp only [if_pos h]
    exact Nat.zero_le _
  · simp only [if_neg h]
    exact Nat.le_refl _
theorem transT_wt (o : List Int) (t : TypeD) : (transT o t).wt ≤ t.wt := by
  have := wtL_map FieldD.wt FieldD.wt (transF o) (transF_wt o) t.fFields
  unfold transT TypeD.wt
  simp only
  omega
theorem transO_wt (o : List Int) (t : ObjectD) : (transO o t).wt ≤ t.wt := by
  have := wtL_map ParamD.wt ParamD.wt (transP o) (fun _ => Nat.le_refl _) t.fParams
  unfold transO ObjectD.wt
  simp only
  omega
theorem transT_mod (o : List Int) {t : TypeD} (h : t.mod) : (transT o t).mod := by
  obtain ⟨h1, h2, h3, h4⟩ := h
  refine ⟨h1, h2, by unfold transT; simpa using h3, fun f hf => ?_⟩
  unfold transT at hf
  obtain ⟨g, hg, rfl⟩ := List.mem_map.1 hf
  exact Nat.le_trans (transF_wt o g) (h4 g hg)
theorem exp_k {s : ScopeD} (h : scopeP s) (K : ScopeK s) : ScopeK (expD s) := by
  obtain ⟨OM, _, _⟩ := orderZ_whole h.2.2.1.1.1 h.2.2.1.1.leads (fun ob hb => (obs_ok h ob hb).2)
  have hm := OM.len
  have h24 := h.2.2.1.1.most
  have hl : (shownO s.fObjects).length ≤ s.fObjects.length := List.length_filter_le _ _
  have htm : ∀ x ∈ orderZ s.fTypes s.fObjects, typeZat s.fTypes x ∈ s.fTypes := fun x hx => by
    obtain ⟨x0, x1⟩ := OM.here x hx
    obtain ⟨k, rfl⟩ := Int.eq_ofNat_of_zero_le x0
    rw [typeZat_in (by omega : k < s.fTypes.length)]
    exact List.getElem_mem _
  refine ⟨K.nm, Nat.zero_le _, ?_, ?_, Nat.zero_le _, ?_, ?_, ?_, ?_, ?_, ?_⟩
  · show ((orderZ s.fTypes s.fObjects).map _).length ≤ _
    rw [List.length_map]
    omega
  · show ((shownO s.fObjects).map _).length ≤ _
    rw [List.length_map]
    have := K.lo
    omega
  · intro x hx
    obtain ⟨n, hn, rfl⟩ := List.mem_map.1 hx
    exact Nat.le_trans (transT_wt _ _) (K.tw _ (htm n hn))
  · intro x hx
    obtain ⟨ob, hb, rfl⟩ := List.mem_map.1 hx
    exact Nat.le_trans (transO_wt _ _) (K.ow _ (List.mem_filter.1 hb).1)
  · intro x hx
    cases hx
  · intro x hx
    obtain ⟨n, hn, rfl⟩ := List.mem_map.1 hx
    exact transT_mod _ (K.mt _ (htm n hn))
  · intro x hx
    obtain ⟨ob, hb, rfl⟩ := List.mem_map.1 hx
    obtain ⟨m1, m2, m3⟩ := K.mo _ (List.mem_filter.1 hb).1
    refine ⟨m1, by unfold transO; simpa using m2, fun p hp => ?_⟩
    unfold transO at hp
    obtain ⟨p', hp', rfl⟩ := List.mem_map.1 hp
    exact m3 p' hp'
  · intro x hx
    cases hx
/-- Whether a scope is its own export, and whether it is good. -/
noncomputable def isExpB (s : ScopeD) : Bool := scopeB s && eqB (expD s) s
theorem isExp_no {s : ScopeD} (h : ¬ scopeP s) : scopeB s = false ∧ isExpB s = false := by
  unfold isExpB
  rw [scopeB_false h]
  exact ⟨rfl, rfl⟩
theorem isExp_yes {s : ScopeD} (h : scopeP s) : scopeB s = true ∧ isExpB s = eqB (expD s) s := by
  unfold isExpB
  rw [scopeB_true h]
  exact ⟨rfl, Bool.true_and _⟩

end Go.Proofs.YtaccifjkeblhpaaGreat
