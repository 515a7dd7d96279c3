
/-
  What is proved: contracts of PlaceOf, the program's and the model's. No condition beside what each theorem states.
-/
import Derived.Test.YtlfigpdjhljdnaaPlcOf
namespace Go.Proofs.Ytlfigpdjhljdnaa
open Go.ChangeShapes Go.WideShapes Go.ChangeAt Go.RowKit
set_option maxRecDepth 100000

open Classical in
/-- The last place that is so called. -/
noncomputable def lastP (name : ByteArray) : List PlaceD → Option PlaceD
  | [] => none
  | p :: ps => match lastP name ps with
    | some q => some q
    | none => if p.fName = name then some p else none
theorem lastP_none {name : ByteArray} : ∀ {ps : List PlaceD}, (∀ p ∈ ps, p.fName ≠ name) → lastP name ps = none
  | [], _ => rfl
  | p :: ps, h => by
    unfold lastP
    rw [lastP_none (fun q hq => h q (List.mem_cons_of_mem _ hq))]
    exact if_neg (h p (by simp))
theorem lastP_app {name : ByteArray} : ∀ {ps qs : List PlaceD} {q : PlaceD}, lastP name qs = some q → lastP name (ps ++ qs) = some q
  | [], _, _, h => h
  | p :: ps, qs, q, h => by
    show lastP name (p :: (ps ++ qs)) = _
    unfold lastP
    rw [lastP_app (ps := ps) h]
theorem lastP_at {name : ByteArray} {ps : List PlaceD} {k : Nat} (hk : k < ps.length) (h : ps[k].fName = name) (hn : ∀ i (hi : i < ps.length), k < i → ps[i].fName ≠ name) : lastP name ps = some ps[k] := by
  have e : ps = ps.take k ++ ps[k] :: ps.drop (k + 1) := by rw [← List.drop_eq_getElem_cons hk, List.take_append_drop]
  have h1 : lastP name (ps[k] :: ps.drop (k + 1)) = some ps[k] := by
    unfold lastP
    rw [lastP_none (fun q hq => by
      obtain ⟨i, hi, rfl⟩ := List.getElem_of_mem hq
      rw [List.getElem_drop]
      exact hn _ _ (by omega))]
    exact if_pos h
  exact (congrArg (lastP name) e).trans (lastP_app h1)
open Classical in
noncomputable def plcA (l : List TypeD) (x : Int) (name : ByteArray) : Option PlaceD := if layP l x ∧ nameP name then lastP name (layA l x) else none
theorem plc_in {l : List TypeD} {x : Int} {name : ByteArray} (h1 : layP l x) (h2 : nameP name) : plcA l x name = lastP name (layA l x) := by unfold plcA; exact if_pos ⟨h1, h2⟩
theorem plc_out {l : List TypeD} {x : Int} {name : ByteArray} (h : ¬ (layP l x ∧ nameP name)) : plcA l x name = none := by unfold plcA; exact if_neg h
def plcV (p : PlaceD) : Array Value := #[.string p.fName, .int .i64 p.fAt, .int .i64 p.fSize]
def PostPO (o : Option PlaceD) (w : World) (e : Ending) (w' : World) : Prop := e = .returned (.tuple #[.agg (plcV (o.getD zeroP)), .bool o.isSome]) ∧ Below w.heap.size w w'

theorem place_cells {w w' : World} {a : Option Addr} {ps : List PlaceD} {k : Nat} (hr : Rows placeS Any w a ps) (hk : k < ps.length) (hb : Below w.heap.size w w') :
    ∃ b o, a = some ⟨b, o, none⟩ ∧ b < w.heap.size ∧ w'.cell? ⟨b, o + k * 3, none⟩ = some (.string ps[k].fName) ∧ w'.cell? ⟨b, o + k * 3 + 1, none⟩ = some (.int .i64 ps[k].fAt) ∧ w'.cell? ⟨b, o + k * 3 + 2, none⟩ = some (.int .i64 ps[k].fSize) := by
  obtain ⟨b, o, cs, rfl, _, hb1, hc, hat⟩ := hr k hk
  obtain rfl : cs = [.string ps[k].fName, .int .i64 ps[k].fAt, .int .i64 ps[k].fSize] := hat
  have hn3 : placeS.n = 3 := rfl
  have k0 := (hb.cell (p := ⟨b, o + k * 3 + 0, none⟩) hb1).trans (hc 0 (by decide))
  have k1 := (hb.cell (p := ⟨b, o + k * 3 + 1, none⟩) hb1).trans (hc 1 (by decide))
  have k2 := (hb.cell (p := ⟨b, o + k * 3 + 2, none⟩) hb1).trans (hc 2 (by decide))
  exact ⟨b, o, rfl, hb1, k0, k1, k2⟩

set_option maxHeartbeats 4000000 in
theorem iPlcClo (p : PlaceD) (name : ByteArray) (g : Nat) (q : Bool) (w : World) (hg : Box w g 9 #[.string name]) (hq : (p.fName.toList == name.toList) = q) :
    Calls Try.prog 44 #[.agg #[.string p.fName, .int .i64 p.fAt, .int .i64 p.fSize], .pointer (some ⟨g, 0, none⟩)] w fun e w' => e = .returned (.bool q) ∧ Below w.heap.size w w' := by
  have B0 := Lib.hid ((Below.refl w.heap.size w).alloc (Nat.le_refl _) (.cells #[.string p.fName, .int .i64 p.fAt, .int .i64 p.fSize] 31))
  have x0 : _ = some (Value.string p.fName) := (Box.new w 31 #[.string p.fName, .int .i64 p.fAt, .int .i64 p.fSize]).cell 0
  have g0 : _ = some (Value.string name) := (hg.below B0.out hg.lt).cell 0
  clear hg
  go_enter Try.func44, Try.ntmps44
  go_wp2_with fail
  go_ret
  exact ⟨rfl, B0.out⟩

set_option maxHeartbeats 4000000 in
theorem iIndexPlc (a : Option Addr) (n c : Nat) (ps : List PlaceD) (name : ByteArray) (g : Nat) (w : World) (hps : ps.length = n) (hl : ps.length ≤ 1000) (hr : Rows placeS Any w a ps) (hg : Box w g 9 #[.string name]) :
    Calls Try.prog 43 #[.slice a n c, .func (.func 44) #[] #[.pointer (some ⟨g, 0, none⟩)]] w fun e w' => ∃ r : Int, e = .returned (.int .i64 r) ∧ ((r = -1 ∧ ∀ i (hi : i < ps.length), ps[i].fName ≠ name) ∨ ∃ (k : Nat) (hk : k < ps.length), r = (k : Int) ∧ ps[k].fName = name ∧ ∀ i (hi : i < ps.length), i < k → ps[i].fName ≠ name) ∧ Below w.heap.size w w' := by
  subst hps
  have Hr := Lib.hid hr
  have G := Lib.hid hg
  clear hr hg
  go_enter Try.func43, Try.ntmps43
  go_wp2_with fail
  go_loopw [8] (fun i wr => ∃ k : Nat, i = .int .i64 k ∧ k ≤ ps.length ∧ (∀ j (hj : j < ps.length), j < k → ps[j].fName ≠ name) ∧ Below w.heap.size w wr) (fun i _ => ps.length - (intOf i).toNat)
  case atStart => exact ⟨0, rfl, by omega, fun j _ h => absurd h (by omega), Below.refl _ _⟩
  case round =>
    obtain ⟨k, rfl, hk, hno, hbel⟩ := hrel
    have Hno := Lib.hid hno
    have Hbel := Lib.hid hbel
    clear hno
    obtain ⟨wo, hwo⟩ : ∃ x, x = wr := ⟨_, rfl⟩
    subst hwo
    by_cases hlt : k < ps.length
    · obtain ⟨b, o, rfl, hb1, e0, e1, e2⟩ := place_cells Hr.out hlt hbel
      have G2 := Lib.hid (G.out.below hbel G.out.lt)
      have Hyes := Lib.hid (fun (h : ps[k].fName = name) => show ((k : Int) = -1 ∧ ∀ i (hi : i < ps.length), ps[i].fName ≠ name) ∨ ∃ (k' : Nat) (hk : k' < ps.length), (k : Int) = (k' : Int) ∧ ps[k'].fName = name ∧ ∀ i (hi : i < ps.length), i < k' → ps[i].fName ≠ name from .inr ⟨k, hlt, rfl, h, Hno.out⟩)
      have Hnx := Lib.hid (fun (h : ps[k].fName ≠ name) => show ∀ j (hj : j < ps.length), j < k + 1 → ps[j].fName ≠ name from fun j hj hjk => by
        by_cases e : j = k
        · subst e; exact h
        · exact Hno.out j hj (by omega))
      clear hbel
      generalize ps[k] = p at *
      by_cases hnm : p.fName = name
      · have hq := bytes_same p.fName name true (by simp [hnm])
        have Hv := Lib.hid (Hyes.out hnm)
        have Hq := Lib.hid hq
        clear hnm hq
        go_wp2_with fail
        refine (iPlcClo p name g true _ G2.out Hq.out).mono ?_
        rintro e w1 ⟨rfl, hb⟩
        have B1 := Lib.hid (Hbel.out.trans (hb.mono Hbel.out.size))
        clear hb
        go_wp2_with fail
        go_ret
        exact ⟨_, rfl, Hv.out, B1.out⟩
      · have hq := bytes_same p.fName name false (by simp [hnm])
        have Hv := Lib.hid (Hnx.out hnm)
        have Hq := Lib.hid hq
        clear hnm hq
        go_wp2_with fail
        refine (iPlcClo p name g false _ G2.out Hq.out).mono ?_
        rintro e w1 ⟨rfl, hb⟩
        have B1 := Lib.hid (Hbel.out.trans (hb.mono Hbel.out.size))
        clear hb
        go_wp2_with fail
        exact ⟨⟨k + 1, by congr 1, by omega, Hv.out, B1.out⟩, by simp [intOf]; omega⟩
    · have hkf : k = ps.length := by omega
      clear hbel
      go_wp2_with fail
      go_ret
      exact ⟨_, rfl, .inl ⟨rfl, fun i hi => Hno.out i hi (by omega)⟩, Hbel.out⟩

set_option maxHeartbeats 8000000 in
theorem iPlaceOf (a : Option Addr) (c : Nat) (l : List TypeD) (x : Int) (name : ByteArray) (w : World) (hl : l.length ≤ 1048576) (hc : l.length ≤ c) (hc2 : c ≤ maxLen) (hm : ∀ t ∈ l, t.mod) (hn : name.size ≤ maxLen) (hr : Rows typeS Any w a l) :
    Calls Try.prog 13 #[.slice a l.length c, .int .i64 x, .string name] w (PostPO (plcA l x name) w) := by
  have B0 := Lib.hid (((Below.refl w.heap.size w).alloc (Nat.le_refl _) (.cells #[.string name] 9)).alloc (by simp) (.cells #[.string ⟨#[]⟩, .int .i64 0, .int .i64 0] 31))
  have X0 := Lib.hid ((Box.new w 9 #[.string name]).alloc (.cells #[.string ⟨#[]⟩, .int .i64 0, .int .i64 0] 31))
  have Y0 := Lib.hid (Box.new' (w.alloc (.cells #[.string name] 9)) 31 #[.string ⟨#[]⟩, .int .i64 0, .int .i64 0] (g := w.heap.size + 1) (by simp))
  have R0 := Lib.hid (hr.below B0.out)
  have Hm := Lib.hid hm
  have hll : (layA l x).length ≤ 144 := layA_len
  have Hps := Lib.hid (fun (h1 : layP l x) (h2 : nameP name) => plc_in h1 h2)
  have Hno := Lib.hid (fun (h : ¬ (layP l x ∧ nameP name)) => plc_out h)
  have Hla := Lib.hid (iLayoutOf a c l x _ hl hc hc2 Hm.out R0.out)
  clear hr hm
  generalize layA l x = ps at *
  obtain ⟨o, ho⟩ : ∃ o, plcA l x name = o := ⟨_, rfl⟩
  rw [ho] at Hps Hno
  rw [ho]
  clear ho
  go_enter Try.func13, Try.ntmps13
  go_wp2_with fail
  generalize (w.alloc (.cells #[.string name] 9)).alloc (.cells #[.string ⟨#[]⟩, .int .i64 0, .int .i64 0] 31) = wq at *
  refine Hla.out.mono ?_
  rintro e w1 ⟨v1, rfl, hown, hb1⟩
  have X1 := Lib.hid (X0.out.below hb1 X0.out.lt)
  have Y1 := Lib.hid (Y0.out.below hb1 Y0.out.lt)
  have B1 := Lib.hid (B0.out.trans (hb1.mono B0.out.size))
  have O1 := Lib.hid hown
  have hol := World.ownsRow.lt hown
  have hq1 := X0.out.lt
  have hq2 := Y0.out.lt
  have x0 : _ = some (Value.string name) := X1.out.cell 0
  clear hown hb1 Hla
  obtain ⟨a1, c1, rfl, hc1, _, _, _⟩ := O1.out.rows
  have y0 : _ = some (Value.string ⟨#[]⟩) := Y1.out.cell 0
  have y1 : _ = some (Value.int .i64 0) := Y1.out.cell 1
  have y2 : _ = some (Value.int .i64 0) := Y1.out.cell 2
  have yf := Y1.out.free
  have Hz := Lib.hid (show ∀ (W : World), Box W (w.heap.size + 1) 31 #[.string ⟨#[]⟩, .int .i64 0, .int .i64 0] → Below w.heap.size w W → Box (((W.setCell ⟨w.heap.size + 1, 0, none⟩ (.string ByteArray.empty)).setCell ⟨w.heap.size + 1, 1, none⟩ (.int .i64 0)).setCell ⟨w.heap.size + 1, 2, none⟩ (.int .i64 0)) (w.heap.size + 1) 31 #[.string ByteArray.empty, .int .i64 0, .int .i64 0] ∧ Below w.heap.size w (((W.setCell ⟨w.heap.size + 1, 0, none⟩ (.string ByteArray.empty)).setCell ⟨w.heap.size + 1, 1, none⟩ (.int .i64 0)).setCell ⟨w.heap.size + 1, 2, none⟩ (.int .i64 0)) from fun W hX hB =>
    ⟨((hX.set 0 _).set 1 _).set 2 _, ((hB.setCell (by simp) _).setCell (by simp) _).setCell (by simp) _⟩)
  by_cases h1 : layP l x
  · rw [(lay_in h1).1]
    by_cases h2 : nameP name
    · have Ho := Lib.hid (Hps.out h1 h2)
      have hnb := nameB_true h2
      clear h1 h2 Hps Hno
      go_wp2_with (go_at_call 41; refine (iGoodName _ _ hn).mono ?_; rintro e w' ⟨rfl, rfl⟩)
      refine (iRevPlaces wq.heap.size _ ps w1 (by omega) O1.out).mono ?_
      rintro e w2 ⟨rfl, hown2, hg2⟩
      have X2 : Hid (Box w2 w.heap.size 9 #[.string name]) := Lib.hid ((hg2.block _ X1.out.lt (fun e => by have := (hol _ e.symm).1; omega)).trans X1.out)
      have Y2 : Hid (Box w2 (w.heap.size + 1) 31 #[.string ⟨#[]⟩, .int .i64 0, .int .i64 0]) := Lib.hid ((hg2.block _ Y1.out.lt (fun e => by have := (hol _ e.symm).1; omega)).trans Y1.out)
      have B2 := Lib.hid (B1.out.grown hg2 B1.out.size (fun k hk => by have := (hol k hk).1; have := B0.out.size; omega))
      obtain ⟨a2, c2, hv2, _, _, _, hr2⟩ := hown2.rows
      injection hv2 with hv1 hvn hv3
      clear hvn
      subst hv1 hv3
      have R2 := Lib.hid hr2.any
      have hrev : ps.reverse.length = ps.length := List.length_reverse
      have Hrev := Lib.hid (show ∀ k (hk : k < ps.reverse.length), ps.reverse[k] = ps[ps.length - 1 - k]'(by rw [List.length_reverse] at hk; omega) from fun k hk => List.getElem_reverse hk)
      clear hown2 hg2 hr2 y0 y1 y2 yf x0 hol O1
      go_wp2_with fail
      refine (iIndexPlc a1 ps.length c1 ps.reverse name w.heap.size _ hrev (by omega) R2.out X2.out).mono ?_
      rintro e w3 ⟨r, rfl, hidx, hb3⟩
      have Y3 := Lib.hid (Y2.out.below hb3 Y2.out.lt)
      have B3 := Lib.hid (B2.out.trans (hb3.mono B2.out.size))
      have y0 : _ = some (Value.string ⟨#[]⟩) := Y3.out.cell 0
      have y1 : _ = some (Value.int .i64 0) := Y3.out.cell 1
      have y2 : _ = some (Value.int .i64 0) := Y3.out.cell 2
      have yf := Y3.out.free
      rcases hidx with ⟨rfl, hnone⟩ | ⟨k, hk, rfl, hkn, hbef⟩
      · have Hv := Lib.hid (show o = none by
          rw [Ho.out]
          refine lastP_none (fun p hp => ?_)
          obtain ⟨i, hi, e⟩ := List.getElem_of_mem (List.mem_reverse.2 hp)
          rw [← e]
          exact hnone i hi)
        clear hnone hb3
        go_wp2_with fail
        obtain ⟨z1, z2⟩ := Hz.out _ Y3.out B3.out
        refine bodyPost_ret (results_plc rfl _ _ (w.heap.size + 1) #[.string ByteArray.empty, .int .i64 0, .int .i64 0] rfl z1 rfl) rfl ?_
        exact ⟨by rw [Hv.out]; rfl, z2⟩
      · have hkl : k < ps.length := by omega
        have Hv := Lib.hid (show o = some ps.reverse[k] by
          rw [Ho.out, Hrev.out k hk]
          refine lastP_at (by omega) (by rw [← Hrev.out k hk]; exact hkn) (fun i hi hlt => ?_)
          have h3 := hbef (ps.length - 1 - i) (by omega) (by omega)
          rw [Hrev.out] at h3
          have e : ps.length - 1 - (ps.length - 1 - i) = i := by omega
          simp only [e] at h3
          exact h3)
        obtain ⟨b, of, rfl, hb1, e0, e1, e2⟩ := place_cells R2.out hk hb3
        clear hbef hkn hb3 hrev Hrev
        generalize ps.reverse[k] = p at *
        have i1 : ¬ ((k : Int) < 0) := by omega
        have i2 : (k : Int) < (ps.length : Int) := by omega
        go_wp2_with fail
        refine bodyPost_ret (results_plc rfl _ _ (w.heap.size + 1) #[.string p.fName, .int .i64 p.fAt, .int .i64 p.fSize] rfl (((Y3.out.set 0 (.string p.fName)).set 1 (.int .i64 p.fAt)).set 2 (.int .i64 p.fSize)) rfl) rfl ?_
        exact ⟨by rw [Hv.out]; rfl, ((B3.out.setCell (by simp) _).setCell (by simp) _).setCell (by simp) _⟩
    · have Hv := Lib.hid (Hno.out (fun h => h2 h.2))
      have hnb := nameB_false h2
      clear h1 h2 Hps Hno
      go_wp2_with (go_at_call 41; refine (iGoodName _ _ hn).mono ?_; rintro e w' ⟨rfl, rfl⟩)
      obtain ⟨z1, z2⟩ := Hz.out _ Y1.out B1.out
      refine bodyPost_ret (results_plc rfl _ _ (w.heap.size + 1) #[.string ByteArray.empty, .int .i64 0, .int .i64 0] rfl z1 rfl) rfl ?_
      exact ⟨by rw [Hv.out]; rfl, z2⟩
  · rw [(lay_out h1).1]
    have Hv := Lib.hid (Hno.out (fun h => h1 h.1))
    clear h1 Hps Hno
    go_wp2_with fail
    obtain ⟨z1, z2⟩ := Hz.out _ Y1.out B1.out
    refine bodyPost_ret (results_plc rfl _ _ (w.heap.size + 1) #[.string ByteArray.empty, .int .i64 0, .int .i64 0] rfl z1 rfl) rfl ?_
    exact ⟨by rw [Hv.out]; rfl, z2⟩

set_option maxHeartbeats 8000000 in
theorem sPlaceOf (a : Option Addr) (c : Nat) (l : List TypeD) (x : Int) (name : ByteArray) (w : World) (hl : l.length ≤ 1048576) (hc : l.length ≤ c) (hc2 : c ≤ maxLen) (hm : ∀ t ∈ l, t.mod) (hn : name.size ≤ maxLen) (hr : Rows typeS Any w a l) :
    Calls Try.prog 14 #[.slice a l.length c, .int .i64 x, .string name] w (PostPO (plcA l x name) w) := by
  have B0 := Lib.hid ((Below.refl w.heap.size w).alloc (Nat.le_refl _) (.cells #[.string ⟨#[]⟩, .int .i64 0, .int .i64 0] 31))
  have Y0 := Lib.hid (Box.new w 31 #[.string ⟨#[]⟩, .int .i64 0, .int .i64 0])
  have R0 := Lib.hid (hr.below B0.out)
  have Hm := Lib.hid hm
  have hll : (layA l x).length ≤ 144 := layA_len
  have Hps := Lib.hid (fun (h1 : layP l x) (h2 : nameP name) => plc_in h1 h2)
  have Hno := Lib.hid (fun (h : ¬ (layP l x ∧ nameP name)) => plc_out h)
  have Hla := Lib.hid (fun (hg : recP l x) W (hW : Rows typeS Any W a l) => sl10Layout a c l x W hg hW)
  have Hrec := Lib.hid (sl10Record a c l x _ hl hc hc2 Hm.out R0.out)
  clear hr hm
  generalize layA l x = ps at *
  obtain ⟨o, ho⟩ : ∃ o, plcA l x name = o := ⟨_, rfl⟩
  rw [ho] at Hps Hno
  rw [ho]
  clear ho
  have Hz := Lib.hid (show ∀ (W : World), Box W w.heap.size 31 #[.string ⟨#[]⟩, .int .i64 0, .int .i64 0] → Below w.heap.size w W → Box (((W.setCell ⟨w.heap.size, 0, none⟩ (.string ByteArray.empty)).setCell ⟨w.heap.size, 1, none⟩ (.int .i64 0)).setCell ⟨w.heap.size, 2, none⟩ (.int .i64 0)) w.heap.size 31 #[.string ByteArray.empty, .int .i64 0, .int .i64 0] ∧ Below w.heap.size w (((W.setCell ⟨w.heap.size, 0, none⟩ (.string ByteArray.empty)).setCell ⟨w.heap.size, 1, none⟩ (.int .i64 0)).setCell ⟨w.heap.size, 2, none⟩ (.int .i64 0)) from fun W hX hB =>
    ⟨((hX.set 0 _).set 1 _).set 2 _, ((hB.setCell (by simp) _).setCell (by simp) _).setCell (by simp) _⟩)
  go_enter Try.func14, Try.ntmps14
  go_wp2_with fail
  generalize w.alloc (.cells #[.string ⟨#[]⟩, .int .i64 0, .int .i64 0] 31) = wq at *
  refine Hrec.out.mono ?_
  rintro e w1 ⟨rfl, hb1⟩
  have Y1 := Lib.hid (Y0.out.below hb1 Y0.out.lt)
  have B1 := Lib.hid (B0.out.trans (hb1.mono B0.out.size))
  have R1 := Lib.hid (R0.out.below hb1)
  have y0 : _ = some (Value.string ⟨#[]⟩) := Y1.out.cell 0
  have y1 : _ = some (Value.int .i64 0) := Y1.out.cell 1
  have y2 : _ = some (Value.int .i64 0) := Y1.out.cell 2
  have yf := Y1.out.free
  clear hb1 Hrec
  by_cases hg : recP l x
  · rw [recB_true hg]
    by_cases h2 : nameP name
    · have hnb := nameB_true h2
      go_wp2_with (go_at_call 45; refine (sl1Name _ _ hn).mono ?_; rintro e w' ⟨rfl, rfl⟩)
      refine (Hla.out hg w1 R1.out).mono ?_
      rintro e w2 ⟨v2, rfl, hown, hb2⟩
      have Y2 := Lib.hid (Y1.out.below hb2 Y1.out.lt)
      have B2 := Lib.hid (B1.out.trans (hb2.mono B1.out.size))
      clear y0 y1 y2 yf
      have y0 : _ = some (Value.string ⟨#[]⟩) := Y2.out.cell 0
      have y1 : _ = some (Value.int .i64 0) := Y2.out.cell 1
      have y2 : _ = some (Value.int .i64 0) := Y2.out.cell 2
      have yf := Y2.out.free
      obtain ⟨a2, c2, rfl, _, _, _, hr2⟩ := hown.rows
      have P2 := Lib.hid hr2.any
      clear hown hb2 hr2 Hla
      by_cases h1 : layP l x
      · have Ho := Lib.hid (Hps.out h1 h2)
        rw [(lay_in h1).1]
        clear h1 h2 hg Hps Hno
        go_wp2_with fail
        go_loop [10] (fun i => ∃ k : Nat, i = .int .i64 ((k : Int) - 1) ∧ k ≤ ps.length ∧ ∀ j (hj : j < ps.length), k ≤ j → ps[j].fName ≠ name) (fun i => (intOf i + 1).toNat)
        case atStart => exact ⟨ps.length, rfl, Nat.le_refl _, fun j hj h => absurd hj (by omega)⟩
        case round =>
          obtain ⟨k, rfl, hk, hno⟩ := hrel
          have Hn2 := Lib.hid hno
          clear hno
          cases k with
          | zero =>
            have Hv := Lib.hid (show o = none by
              rw [Ho.out]
              refine lastP_none (fun p hp => ?_)
              obtain ⟨i, hi, rfl⟩ := List.getElem_of_mem hp
              exact Hn2.out i hi (by omega))
            have hneg : ¬ (0 ≤ ((0 : Nat) : Int) - 1) := by omega
            go_wp2_with fail
            obtain ⟨z1, z2⟩ := Hz.out _ Y2.out B2.out
            refine bodyPost_ret (results_plc rfl _ _ w.heap.size #[.string ByteArray.empty, .int .i64 0, .int .i64 0] rfl z1 rfl) rfl ?_
            exact ⟨by rw [Hv.out]; rfl, z2⟩
          | succ k =>
            have hz : (((k + 1 : Nat) : Int) - 1) = (k : Int) := by omega
            rw [hz]
            have hkl : k < ps.length := by omega
            obtain ⟨b, of, rfl, hb1, e0, e1, e2⟩ := place_cells P2.out hkl (Below.refl _ _)
            have Hyes := Lib.hid (fun (h : ps[k].fName = name) => show o = some ps[k] by rw [Ho.out]; exact lastP_at hkl h (fun i hi hlt => Hn2.out i hi (by omega)))
            have Hnx := Lib.hid (fun (h : ps[k].fName ≠ name) => show ∀ j (hj : j < ps.length), k ≤ j → ps[j].fName ≠ name from fun j hj hjk => by
              by_cases e : j = k
              · subst e; exact h
              · exact Hn2.out j hj (by omega))
            clear hz
            generalize ps[k] = p at *
            by_cases hnm : p.fName = name
            · have hq := bytes_same p.fName name true (by simp [hnm])
              have Hv := Lib.hid (Hyes.out hnm)
              clear hnm
              go_wp2_with fail
              refine bodyPost_ret (results_plc rfl _ _ w.heap.size #[.string p.fName, .int .i64 p.fAt, .int .i64 p.fSize] rfl (((Y2.out.set 0 (.string p.fName)).set 1 (.int .i64 p.fAt)).set 2 (.int .i64 p.fSize)) rfl) rfl ?_
              exact ⟨by rw [Hv.out]; rfl, ((B2.out.setCell (by simp) _).setCell (by simp) _).setCell (by simp) _⟩
            · have hq := bytes_same p.fName name false (by simp [hnm])
              have Hv := Lib.hid (Hnx.out hnm)
              clear hnm
              go_wp2_with fail
              go_round
              case rel => exact ⟨k, by go_num, by omega, Hv.out⟩
              case measure => simp [intOf]
      · have Hv := Lib.hid (Hno.out (fun h => h1 h.1))
        rw [(lay_out h1).1]
        clear h1 h2 hg Hps Hno
        go_wp2_with fail
        obtain ⟨z1, z2⟩ := Hz.out _ Y2.out B2.out
        refine bodyPost_ret (results_plc rfl _ _ w.heap.size #[.string ByteArray.empty, .int .i64 0, .int .i64 0] rfl z1 rfl) rfl ?_
        exact ⟨by rw [Hv.out]; rfl, z2⟩
    · have Hv := Lib.hid (Hno.out (fun h => h2 h.2))
      have hnb := nameB_false h2
      clear h2 hg Hps Hno Hla
      go_wp2_with (go_at_call 45; refine (sl1Name _ _ hn).mono ?_; rintro e w' ⟨rfl, rfl⟩)
      obtain ⟨z1, z2⟩ := Hz.out _ Y1.out B1.out
      refine bodyPost_ret (results_plc rfl _ _ w.heap.size #[.string ByteArray.empty, .int .i64 0, .int .i64 0] rfl z1 rfl) rfl ?_
      exact ⟨by rw [Hv.out]; rfl, z2⟩
  · rw [recB_false hg]
    have Hv := Lib.hid (Hno.out (fun h => hg h.1.1))
    clear hg Hps Hno Hla
    go_wp2_with fail
    obtain ⟨z1, z2⟩ := Hz.out _ Y1.out B1.out
    refine bodyPost_ret (results_plc rfl _ _ w.heap.size #[.string ByteArray.empty, .int .i64 0, .int .i64 0] rfl z1 rfl) rfl ?_
    exact ⟨by rw [Hv.out]; rfl, z2⟩
end Go.Proofs.Ytlfigpdjhljdnaa
