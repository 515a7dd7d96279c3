
/-
  What is proved: contracts of the model's l7File and FileBytes. No condition beside what each theorem states.
-/
import Derived.Test.YtaccifjkeblhpaaGreatFileW
namespace Go.Proofs.YtaccifjkeblhpaaGreat
open Go.ChangeShapes Go.WideShapes Go.ChangeAt Go.RowKit
set_option maxRecDepth 100000

/-- The cells of a type of a row, in any world that keeps them. -/
theorem typeF_at {Q : Nat → Prop} {w w' : World} {a : Option Addr} {l : List TypeD} {k : Nat} (hr : Rows typeS Q w a l) (hk : k < l.length) (hb : Below w.heap.size w w') :
    ∃ b o a3 c3, a = some ⟨b, o, none⟩ ∧ b < w.heap.size ∧ w'.cell? ⟨b, o + k * 6, none⟩ = some (.int .i64 l[k].fKind) ∧ w'.cell? ⟨b, o + k * 6 + 1, none⟩ = some (.int .i64 l[k].fLong) ∧ w'.cell? ⟨b, o + k * 6 + 2, none⟩ = some (.int .i64 l[k].fBase) ∧ w'.cell? ⟨b, o + k * 6 + 3, none⟩ = some (.slice a3 l[k].fFields.length c3) ∧ w'.cell? ⟨b, o + k * 6 + 4, none⟩ = some (.string l[k].fOwner) ∧ w'.cell? ⟨b, o + k * 6 + 5, none⟩ = some (.string l[k].fName) ∧ Rows fieldS Any w' a3 l[k].fFields := by
  obtain ⟨b, o, cs, rfl, _, hb1, hc1, hat⟩ := hr k hk
  obtain ⟨a3, c3, rfl, hfe, _⟩ := hat
  have e0 := (hb.cell (p := ⟨b, o + k * 6 + 0, none⟩) hb1).trans (hc1 0 (by decide))
  have e1 := (hb.cell (p := ⟨b, o + k * 6 + 1, none⟩) hb1).trans (hc1 1 (by decide))
  have e2 := (hb.cell (p := ⟨b, o + k * 6 + 2, none⟩) hb1).trans (hc1 2 (by decide))
  have e3 := (hb.cell (p := ⟨b, o + k * 6 + 3, none⟩) hb1).trans (hc1 3 (by decide))
  have e4 := (hb.cell (p := ⟨b, o + k * 6 + 4, none⟩) hb1).trans (hc1 4 (by decide))
  have e5 := (hb.cell (p := ⟨b, o + k * 6 + 5, none⟩) hb1).trans (hc1 5 (by decide))
  exact ⟨b, o, a3, c3, rfl, hb1, e0, e1, e2, e3, e4, e5, hfe.any.below hb⟩
theorem objF_at {Q : Nat → Prop} {w w' : World} {a : Option Addr} {l : List ObjectD} {k : Nat} (hr : Rows objectS Q w a l) (hk : k < l.length) (hb : Below w.heap.size w w') :
    ∃ b o a3 c3, a = some ⟨b, o, none⟩ ∧ b < w.heap.size ∧ w'.cell? ⟨b, o + k * 6, none⟩ = some (.string l[k].fName) ∧ w'.cell? ⟨b, o + k * 6 + 1, none⟩ = some (.int .i64 l[k].fKind) ∧ w'.cell? ⟨b, o + k * 6 + 2, none⟩ = some (.int .i64 l[k].fMark) ∧ w'.cell? ⟨b, o + k * 6 + 3, none⟩ = some (.int .i64 l[k].fType) ∧ w'.cell? ⟨b, o + k * 6 + 4, none⟩ = some (.int .i64 l[k].fValue) ∧ w'.cell? ⟨b, o + k * 6 + 5, none⟩ = some (.slice a3 l[k].fParams.length c3) ∧ Rows paramS Any w' a3 l[k].fParams := by
  obtain ⟨b, o, cs, rfl, _, hb1, hc1, hat⟩ := hr k hk
  obtain ⟨a3, c3, rfl, hfe, _⟩ := hat
  have e0 := (hb.cell (p := ⟨b, o + k * 6 + 0, none⟩) hb1).trans (hc1 0 (by decide))
  have e1 := (hb.cell (p := ⟨b, o + k * 6 + 1, none⟩) hb1).trans (hc1 1 (by decide))
  have e2 := (hb.cell (p := ⟨b, o + k * 6 + 2, none⟩) hb1).trans (hc1 2 (by decide))
  have e3 := (hb.cell (p := ⟨b, o + k * 6 + 3, none⟩) hb1).trans (hc1 3 (by decide))
  have e4 := (hb.cell (p := ⟨b, o + k * 6 + 4, none⟩) hb1).trans (hc1 4 (by decide))
  have e5 := (hb.cell (p := ⟨b, o + k * 6 + 5, none⟩) hb1).trans (hc1 5 (by decide))
  exact ⟨b, o, a3, c3, rfl, hb1, e0, e1, e2, e3, e4, e5, hfe.any.below hb⟩

set_option maxHeartbeats 16000000 in
theorem sl7File (s : ScopeD) (a1 a2 a3 a4 : Option Addr) (w : World) (F : FileOk s) (hr : ScopeR Any w a1 a2 a3 a4 s) :
    Calls Tryz.prog 42 #[.agg (scopeC s a1 a2 a3 a4 s.fImports.length s.fTypes.length s.fObjects.length s.fUses.length)] w fun e w' => e = .returned (.string (fileZ s)) ∧ Below w.heap.size w w' := by
  have B0 := Lib.hid ((Below.refl w.heap.size w).alloc (Nat.le_refl _) (.cells (scopeC s a1 a2 a3 a4 s.fImports.length s.fTypes.length s.fObjects.length s.fUses.length) 33))
  have X0 := Lib.hid (Box.new w 33 (scopeC s a1 a2 a3 a4 s.fImports.length s.fTypes.length s.fObjects.length s.fUses.length))
  have h3 := F.three
  have h24 := F.most
  have h16 := F.few
  obtain ⟨tb, to, _, ha2, _⟩ := hr.types 0 (by omega)
  subst ha2
  have R2 := Lib.hid (show Rows typeS Any w (some ⟨tb, to + 18, none⟩) (s.fTypes.drop 3) from rows_drop 3 hr.types)
  have R3 := Lib.hid hr.objects
  have HT := Lib.hid F.types
  have HO := Lib.hid F.objects
  have hdl : (s.fTypes.drop 3).length = s.fTypes.length - 3 := by simp
  have G1 := Lib.hid (fun W => sNameB7 s.fName W F.name)
  have G2 := Lib.hid (fun W => sNum7 ((s.fTypes.length : Int) - 3) W (by unfold wholeN; omega))
  have G3 := Lib.hid (fun W => sNum7 (s.fObjects.length : Int) W (by unfold wholeN; omega))
  have G4 := Lib.hid (fun W b (hb : b = filePart s) => sl7Sum b W (by rw [hb]; have := F.size; omega))
  have Fin := Lib.hid (show fileZ s = filePart s ++ sumPart (filePart s) from rfl)
  have Fin2 := Lib.hid (show filePart s = headF ++ namePart s.fName ++ numPart ((s.fTypes.length : Int) - 3) ++ catP typePart (s.fTypes.drop 3) ++ numPart (s.fObjects.length : Int) ++ catP objPart s.fObjects by
    unfold filePart eachPart
    rw [hdl, show ((s.fTypes.length - 3 : Nat) : Int) = (s.fTypes.length : Int) - 3 by omega]
    simp only [ba_assoc])
  have z1 := namePart_size s.fName
  have z2 := numPart_size ((s.fTypes.length : Int) - 3)
  have z3 := numPart_size (s.fObjects.length : Int)
  have zs := F.size
  have zp := sumPart_size (filePart s)
  generalize hT : s.fTypes.drop 3 = T at *
  clear hr F hT
  have HSP : Hid (∀ b, b = filePart s → sumPart b = sumPart (filePart s)) := Lib.hid (fun b h => by rw [h])
  generalize sumPart (filePart s) = SP at *
  generalize filePart s = FP at *
  generalize fileZ s = FZ at *
  generalize namePart s.fName = P1 at *
  generalize numPart ((s.fTypes.length : Int) - 3) = P2 at *
  generalize numPart (s.fObjects.length : Int) = P3 at *
  have iw : IntKind.i64.wrap ((s.fTypes.length : Int) - 3) = (s.fTypes.length : Int) - 3 := IntWalk.i64_in _ (by omega)
  have hhs : (⟨#[79, 83, 49]⟩ : ByteArray).size = 3 := rfl
  have hz1 : ¬ 9223372036854775807 < (⟨#[79, 83, 49]⟩ : ByteArray).size + P1.size := by omega
  have hz1b : ¬ 9223372036854775807 < 3 + P1.size := by omega
  have hz2 : ¬ 9223372036854775807 < (⟨#[79, 83, 49]⟩ : ByteArray).size + P1.size + P2.size := by omega
  have hz2b : ¬ 9223372036854775807 < 3 + P1.size + P2.size := by omega
  go_enter Tryz.func42, Tryz.ntmps42
  go_wp2_with fail
  generalize hyy : w.heap.size = y at *
  have HY := Lib.hid hyy
  clear hyy
  generalize w.alloc (.cells (scopeC s a1 (some ⟨tb, to, none⟩) a3 a4 s.fImports.length s.fTypes.length s.fObjects.length s.fUses.length) 33) = wq at *
  have Y0 := Lib.hid (show Box wq.drew y 33 (scopeC s a1 (some ⟨tb, to, none⟩) a3 a4 s.fImports.length s.fTypes.length s.fObjects.length s.fUses.length) from X0.out.drewN 1)
  replace B0 := Lib.hid (show Below y w wq.drew from belowN B0.out 1)
  --FA<
  refine wp_region_held_drew (S := fun w' => w'.cell? ⟨y, 0, none⟩ = some (.string s.fName) ∧ w'.cell? ⟨y, 1, none⟩ = some (.slice a1 s.fImports.length s.fImports.length) ∧ w'.cell? ⟨y, 2, none⟩ = some (.slice (some ⟨tb, to, none⟩) s.fTypes.length s.fTypes.length) ∧ w'.cell? ⟨y, 3, none⟩ = some (.slice a3 s.fObjects.length s.fObjects.length) ∧ w'.cell? ⟨y, 4, none⟩ = some (.slice a4 s.fUses.length s.fUses.length)) (by kernel_rfl) ?_ (fun hHeld => ?_)
  · try dsimp only
    exact box5 Y0.out
  refine tkP (i := 0) (v := .pointer (some ⟨y, 0, none⟩)) rfl ?_
  try simp only [Act.put, pA, pB, pC]
  refine tkP (i := 1) (v := .string s.fName) rfl ?_
  try simp only [Act.put, pA, pB, pC]
  refine tkP (i := 4) (v := .pointer (some ⟨y, 2, none⟩)) rfl ?_
  try simp only [Act.put, pA, pB, pC]
  refine tkP (i := 5) (v := .slice (some ⟨tb, to, none⟩) s.fTypes.length s.fTypes.length) rfl ?_
  try simp only [Act.put, pA, pB, pC]
  refine tkP (i := 6) (v := .int .i64 (s.fTypes.length : Int)) rfl ?_
  try simp only [Act.put, pA, pB, pC]
  refine tkP (i := 7) (v := .int .i64 ((s.fTypes.length : Int) - 3)) rfl ?_
  try simp only [Act.put, pA, pB, pC]
  refine wpAnyH_ready (rs := [2]) (by kernel_rfl) (by simp) ?_
  refine rdC rfl (fun K hK => ?_) AllReadyH.nil
  go_simp
  go_at_call 90
  refine (G1.out _).mono ?_
  rintro e w1 ⟨rfl, hb1⟩
  have Y1 := Lib.hid (Y0.out.below hb1 Y0.out.lt)
  have B1 := Lib.hid (B0.out.trans (hb1.mono (HY.out ▸ B0.out.size)))
  clear hb1
  refine hK.out _ _ ?_ (fun hHeld2 => ?_)
  · try dsimp only
    exact box5 Y1.out
  clear hK K hHeld
  have hHeld := hHeld2
  clear hHeld2
  try simp only [Act.put, pA, pB, pC]
  refine tkP (i := 3) (v := .string (⟨#[79, 83, 49]⟩ ++ P1)) rfl ?_
  try simp only [Act.put, pA, pB, pC]
  refine wpAnyH_ready (rs := [8]) (by kernel_rfl) (by simp) ?_
  refine rdC rfl (fun K hK => ?_) AllReadyH.nil
  go_simp
  go_at_call 91
  refine (G2.out _).mono ?_
  rintro e w2 ⟨rfl, hb2⟩
  have Y2 := Lib.hid (Y1.out.below hb2 Y1.out.lt)
  have B2 := Lib.hid (B1.out.trans (hb2.mono (HY.out ▸ B1.out.size)))
  clear hb2
  refine hK.out _ _ ?_ (fun hHeld2 => ?_)
  · try dsimp only
    exact box5 Y2.out
  clear hK K hHeld
  have hHeld := hHeld2
  clear hHeld2
  try simp only [Act.put, pA, pB, pC]
  refine tkP (i := 9) (v := .string (⟨#[79, 83, 49]⟩ ++ P1 ++ P2)) rfl ?_
  try simp only [Act.put, pA, pB, pC]
  refine tkP (i := 10) (v := .string (⟨#[79, 83, 49]⟩ ++ P1 ++ P2)) rfl ?_
  try simp only [Act.put, pA, pB, pC]
  refine wpAnyH_done (by kernel_rfl) ?_ _
  --FA>
  have hsy : y < w2.heap.size := Y2.out.lt
  have B2y := Lib.hid (show Below w.heap.size w w2 by rw [HY.out]; exact B2.out)
  obtain ⟨PP, hPP⟩ : ∃ q, q = (⟨#[79, 83, 49]⟩ : ByteArray) ++ P1 ++ P2 := ⟨_, rfl⟩
  rw [← hPP]
  have hps : PP.size ≤ 19 := by rw [hPP]; simp only [ByteArray.size_append]; omega
  have HPP := Lib.hid (show FP = PP ++ catP typePart T ++ P3 ++ catP objPart s.fObjects by rw [Fin2.out, hPP]; rfl)
  clear hPP hz1 hz1b hz2 hz2b Fin2 iw hhs G1 G2
  have x2 := Y2.out.cell 2
  simp at x2
  have k3 : ¬ (s.fTypes.length : Int) < 3 := by omega
  have hsl1 : ((s.fTypes.length : Int) - 3).toNat = T.length := by omega
  go_wp2_with fail
  all_goals
    try rw [← hdl]
    have hT21 : T.length ≤ 21 := by omega
    have HDL := Lib.hid hdl
    clear hdl
    go_loopw [22, 3] (fun i sv wr => ∃ k : Nat, i = .int .i64 k ∧ sv = .string (PP ++ catP typePart (T.take k)) ∧ k ≤ T.length ∧ Box wr y 33 (scopeC s a1 (some ⟨tb, to, none⟩) a3 a4 s.fImports.length s.fTypes.length s.fObjects.length s.fUses.length) ∧ Below w.heap.size w wr) (fun i _ _ => T.length - (intOf i).toNat)
    case atStart => exact ⟨0, rfl, by rw [List.take_zero]; show Value.string PP = Value.string (PP ++ ByteArray.empty); rw [ba_empty], by omega, by simpa only [h] using Y2.out, B2y.out⟩
    case round =>
      obtain ⟨k, rfl, rfl, hk, hbx, hbel⟩ := hrel
      have HB := Lib.hid hbx
      have Hbel := Lib.hid hbel
      have hszb := hbel.size
      by_cases hlt : k < T.length
      · first
        | (exfalso; have := HDL.out; omega)
        | (obtain ⟨b, o, c3, d3, hba, hbb, e0, e1, e2, e3, e4, e5, hfe⟩ := typeF_at R2.out hlt hbel
           injection hba with hba
           injection hba with q1 q2 q3
           subst q1 q2
           have hok := (HT.out _ (List.getElem_mem hlt)).1
           have hsm := (HT.out _ (List.getElem_mem hlt)).2
           have HN := Lib.hid (show catP typePart (T.take (k + 1)) = catP typePart (T.take k) ++ typePart T[k] by rw [take_more hlt, catP_snoc])
           have hcs := catP_sizeOn typePart 200 (T.take k) (fun x hx => typePart_size (HT.out x (List.mem_of_mem_take hx)).2)
           have htl : (T.take k).length = k := by rw [List.length_take]; omega
           have hps2 := typePart_size hsm
           have hkk : k * 200 ≤ 24 * 200 := Nat.mul_le_mul_right 200 (by omega)
           rw [htl] at hcs
           have hzz : (PP ++ catP typePart (T.take k)).size ≤ 5000 := by rw [ByteArray.size_append]; omega
           clear hbel hbx hcs htl hkk hsm
           have HF := Lib.hid hfe
           have j2 : (k : Int) < (T.length : Int) := by omega
           have j1 : (0 : Int) ≤ (k : Int) := by omega
           generalize T[k] = t at *
           obtain ⟨QQ, hQQ⟩ : ∃ q, q = PP ++ catP typePart (T.take k) := ⟨_, rfl⟩
           rw [← hQQ] at hzz ⊢
           have HQQ := Lib.hid hQQ
           clear hQQ hfe
           have BA := Lib.hid (Hbel.out.alloc hszb (.cells #[.int .i64 t.fKind, .int .i64 t.fLong, .int .i64 t.fBase, .slice c3 t.fFields.length d3, .string t.fOwner, .string t.fName] 72))
           have XA := Lib.hid (HB.out.alloc (.cells #[.int .i64 t.fKind, .int .i64 t.fLong, .int .i64 t.fBase, .slice c3 t.fFields.length d3, .string t.fOwner, .string t.fName] 72))
           have HC := Lib.hid (sl7Type t c3 d3 (wr.alloc (.cells #[.int .i64 t.fKind, .int .i64 t.fLong, .int .i64 t.fBase, .slice c3 t.fFields.length d3, .string t.fOwner, .string t.fName] 72)) (HF.out.below ((Below.refl _ _).alloc (Nat.le_refl _) _)) hok)
           have hzc : ¬ 9223372036854775807 < QQ.size + (typePart t).size := by omega
           generalize typePart t = TP at *
           go_wp2_with fail
           refine HC.out.mono ?_
           rintro e w5 ⟨rfl, hb5⟩
           have B5 := Lib.hid (BA.out.trans (hb5.mono BA.out.size))
           have X5 := Lib.hid (XA.out.below hb5 XA.out.lt)
           clear hb5
           go_wp2_with fail
           exact ⟨⟨k + 1, by congr 1, by rw [HN.out, HQQ.out, ba_assoc], by omega, X5.out, B5.out⟩, by simp [intOf]; omega⟩)
      · obtain rfl : k = T.length := by omega
        rw [List.take_length]
        have hcs := catP_sizeOn typePart 200 T (fun x hx => typePart_size (HT.out x hx).2)
        have hkk : T.length * 200 ≤ 21 * 200 := Nat.mul_le_mul_right 200 hT21
        have hzz : (PP ++ catP typePart T).size ≤ 5000 := by rw [ByteArray.size_append]; omega
        obtain ⟨QQ, hQQ⟩ : ∃ q, q = PP ++ catP typePart T := ⟨_, rfl⟩
        rw [← hQQ] at hzz ⊢
        have HQQ := Lib.hid (show FP = QQ ++ P3 ++ catP objPart s.fObjects by rw [HPP.out, hQQ])
        have hzc : ¬ 9223372036854775807 < QQ.size + P3.size := by omega
        clear hQQ hcs hkk hbel hbx
        have x3 := HB.out.cell 3
        simp at x3
        go_wp2_with fail
        refine (G3.out _).mono ?_
        rintro e w6 ⟨rfl, hb6⟩
        have B6 := Lib.hid (Hbel.out.trans (hb6.mono Hbel.out.size))
        have X6 := Lib.hid (HB.out.below hb6 HB.out.lt)
        clear hb6 x3
        have x3 := X6.out.cell 3
        simp at x3
        go_wp2_with fail
        clear x3
        have hq3 : (QQ ++ P3).size ≤ 5005 := by rw [ByteArray.size_append]; omega
        obtain ⟨RR, hRR⟩ : ∃ q, q = QQ ++ P3 := ⟨_, rfl⟩
        rw [← hRR] at hq3 ⊢
        have HRR := Lib.hid (show FP = RR ++ catP objPart s.fObjects by rw [HQQ.out, hRR])
        clear hRR hzc
        have HL := Lib.hid (show s.fObjects.length ≤ 16 from h16)
        go_loopw [40, 3] (fun i sv wr => ∃ k : Nat, i = .int .i64 k ∧ sv = .string (RR ++ catP objPart (s.fObjects.take k)) ∧ k ≤ s.fObjects.length ∧ Below w.heap.size w wr) (fun i _ _ => s.fObjects.length - (intOf i).toNat)
        case atStart => exact ⟨0, rfl, by rw [List.take_zero]; show Value.string RR = Value.string (RR ++ ByteArray.empty); rw [ba_empty], by omega, B6.out⟩
        case round =>
          obtain ⟨k, rfl, rfl, hk, hbel⟩ := hrel
          have Hbel := Lib.hid hbel
          have hszb := hbel.size
          by_cases hlt : k < s.fObjects.length
          · obtain ⟨b, o, c3, d3, rfl, hbb, e0, e1, e2, e3, e4, e5, hfe⟩ := objF_at R3.out hlt hbel
            have hok := (HO.out _ (List.getElem_mem hlt)).1
            have hsm := (HO.out _ (List.getElem_mem hlt)).2
            have HN := Lib.hid (show catP objPart (s.fObjects.take (k + 1)) = catP objPart (s.fObjects.take k) ++ objPart s.fObjects[k] by rw [take_more hlt, catP_snoc])
            have hcs := catP_sizeOn objPart 200 (s.fObjects.take k) (fun x hx => objPart_size (HO.out x (List.mem_of_mem_take hx)).2)
            have htl : (s.fObjects.take k).length = k := by rw [List.length_take]; omega
            have hps2 := objPart_size hsm
            have hkk : k * 200 ≤ 16 * 200 := Nat.mul_le_mul_right 200 (by omega)
            rw [htl] at hcs
            have hzz2 : (RR ++ catP objPart (s.fObjects.take k)).size ≤ 9000 := by rw [ByteArray.size_append]; omega
            clear hbel hcs htl hkk hsm
            have HF := Lib.hid hfe
            have j2 : (k : Int) < (s.fObjects.length : Int) := by omega
            have j1 : (0 : Int) ≤ (k : Int) := by omega
            generalize s.fObjects[k] = t at *
            obtain ⟨UU, hUU⟩ : ∃ q, q = RR ++ catP objPart (s.fObjects.take k) := ⟨_, rfl⟩
            rw [← hUU] at hzz2 ⊢
            have HUU := Lib.hid hUU
            clear hUU hfe
            have BA := Lib.hid (Hbel.out.alloc hszb (.cells #[.string t.fName, .int .i64 t.fKind, .int .i64 t.fMark, .int .i64 t.fType, .int .i64 t.fValue, .slice c3 t.fParams.length d3] 78))
            have HC := Lib.hid (sl7Object t c3 d3 (wr.alloc (.cells #[.string t.fName, .int .i64 t.fKind, .int .i64 t.fMark, .int .i64 t.fType, .int .i64 t.fValue, .slice c3 t.fParams.length d3] 78)) (HF.out.below ((Below.refl _ _).alloc (Nat.le_refl _) _)) hok)
            have hzc : ¬ 9223372036854775807 < UU.size + (objPart t).size := by omega
            generalize objPart t = TP at *
            go_wp2_with fail
            refine HC.out.mono ?_
            rintro e w7 ⟨rfl, hb7⟩
            have B7 := Lib.hid (BA.out.trans (hb7.mono BA.out.size))
            clear hb7
            go_wp2_with fail
            exact ⟨⟨k + 1, by congr 1, by rw [HN.out, HUU.out, ba_assoc], by omega, B7.out⟩, by simp [intOf]; omega⟩
          · obtain rfl : k = s.fObjects.length := by omega
            rw [List.take_length, ← HRR.out]
            have HC := Lib.hid (fun W => G4.out W FP rfl)
            have hzc : ¬ 9223372036854775807 < FP.size + SP.size := by omega
            clear hbel
            go_wp2_with fail
            refine (HC.out _).mono ?_
            rintro e w8 ⟨rfl, hb8⟩
            have B8 := Lib.hid (Hbel.out.trans (hb8.mono Hbel.out.size))
            clear hb8
            rw [HSP.out FP rfl]
            go_wp2_with fail
            go_ret
            exact ⟨by rw [Fin.out]; rfl, B8.out⟩

set_option maxHeartbeats 16000000 in
theorem sl7Is (s : ScopeD) (a1 a2 a3 a4 : Option Addr) (w : World) (K : ScopeK s) (hr : ScopeR Any w a1 a2 a3 a4 s) :
    Calls Tryz.prog 41 #[.agg (scopeC s a1 a2 a3 a4 s.fImports.length s.fTypes.length s.fObjects.length s.fUses.length)] w fun e w' => e = .returned (.bool (isExpB s)) ∧ Below w.heap.size w w' := by
  have B00 := Lib.hid ((Below.refl w.heap.size w).alloc (Nat.le_refl _) (.cells (scopeC s a1 a2 a3 a4 s.fImports.length s.fTypes.length s.fObjects.length s.fUses.length) 33))
  have X00 := Lib.hid (Box.new w 33 (scopeC s a1 a2 a3 a4 s.fImports.length s.fTypes.length s.fObjects.length s.fUses.length))
  have R00 := Lib.hid (hr.below B00.out)
  have KK := Lib.hid K
  clear hr K
  go_enter Tryz.func41, Tryz.ntmps41
  go_wp2_with fail
  generalize hyy : w.heap.size = y at *
  have HY := Lib.hid hyy
  clear hyy
  generalize w.alloc (.cells (scopeC s a1 a2 a3 a4 s.fImports.length s.fTypes.length s.fObjects.length s.fUses.length) 33) = wq at *
  have Y0 := Lib.hid (show Box wq.drew y 33 (scopeC s a1 a2 a3 a4 s.fImports.length s.fTypes.length s.fObjects.length s.fUses.length) from X00.out.drewN 1)
  have R0 := Lib.hid R00.out.drew
  have B0 := Lib.hid (show Below w.heap.size w wq.drew by rw [HY.out]; exact belowN B00.out 1)
  clear X00 R00 B00
  by_cases hp : scopeP s
  · have HQ := Lib.hid (isExp_yes hp).2
    have HG := Lib.hid (fun W (hW : ScopeR Any W a1 a2 a3 a4 s) => by
      have h := sl4Good s a1 a2 a3 a4 s.fImports.length s.fTypes.length s.fObjects.length s.fUses.length W (KK.out.m hW)
      rw [scopeB_true hp] at h
      exact h)
    obtain ⟨n2, hn2⟩ : ∃ n, n = (tableZ s.fTypes (orderZ s.fTypes s.fObjects)).length := ⟨_, rfl⟩
    obtain ⟨n3, hn3⟩ : ∃ n, n = ((shownO s.fObjects).map (transO (orderZ s.fTypes s.fObjects))).length := ⟨_, rfl⟩
    have HE := Lib.hid (fun W (hW : ScopeR Any W a1 a2 a3 a4 s) => by
      have h := sExport s.fName s.fTypes s.fObjects a1 a2 a3 a4 s.fImports.length s.fUses.length s.fImports.length s.fTypes.length s.fObjects.length s.fUses.length W hp.2.2.1.1 KK.out.lo (obs_ok hp) hW.types hW.objects
      unfold PostExp at h
      rw [← hn2, ← hn3] at h
      exact h)
    have HS := Lib.hid (fun W b2 b3 d2 d3 (hA : ScopeR Any W none b2 b3 none (expD s)) (hW : ScopeR Any W a1 a2 a3 a4 s) => by
      have h : Calls Tryz.prog 89 #[.agg #[.string s.fName, .slice none 0 0, .slice b2 (tableZ s.fTypes (orderZ s.fTypes s.fObjects)).length d2, .slice b3 ((shownO s.fObjects).map (transO (orderZ s.fTypes s.fObjects))).length d3, .slice none 0 0], .agg (scopeC s a1 a2 a3 a4 s.fImports.length s.fTypes.length s.fObjects.length s.fUses.length)] W (fun e w' => e = .returned (.bool (eqB (expD s) s)) ∧ Below W.heap.size W w') := sSameScope (expD s) s none b2 b3 none a1 a2 a3 a4 0 d2 d3 0 s.fImports.length s.fTypes.length s.fObjects.length s.fUses.length W (exp_k hp KK.out) hA hW
      rw [← hn2, ← hn3] at h
      exact h)
    clear hn2 hn3 hp
    generalize eqB (expD s) s = qe at *
    --FB<
    refine wp_region_held_drew (S := fun w' => w'.cell? ⟨y, 0, none⟩ = some (.string s.fName) ∧ w'.cell? ⟨y, 1, none⟩ = some (.slice a1 s.fImports.length s.fImports.length) ∧ w'.cell? ⟨y, 2, none⟩ = some (.slice a2 s.fTypes.length s.fTypes.length) ∧ w'.cell? ⟨y, 3, none⟩ = some (.slice a3 s.fObjects.length s.fObjects.length) ∧ w'.cell? ⟨y, 4, none⟩ = some (.slice a4 s.fUses.length s.fUses.length)) (by kernel_rfl) ?_ (fun hHeld => ?_)
    · try dsimp only
      exact box5 Y0.out
    refine tkP (i := 0) (v := .agg (scopeC s a1 a2 a3 a4 s.fImports.length s.fTypes.length s.fObjects.length s.fUses.length)) rfl ?_
    try simp only [Act.put, pA, pB, pC]
    refine wpAnyH_ready (rs := [1]) (by kernel_rfl) (by simp) ?_
    refine rdC rfl (fun K hK => ?_) AllReadyH.nil
    go_simp
    go_at_call 21
    refine (HG.out _ R0.out).mono ?_
    rintro e w1 ⟨rfl, hb1⟩
    have Y1 := Lib.hid (Y0.out.below hb1 Y0.out.lt)
    have R1 := Lib.hid (R0.out.below hb1)
    have B1 := Lib.hid (B0.out.trans (hb1.mono B0.out.size))
    clear hb1
    refine hK.out _ _ ?_ (fun hHeld2 => ?_)
    · try dsimp only
      exact box5 Y1.out
    clear hK K hHeld
    have hHeld := hHeld2
    clear hHeld2
    try simp only [Act.put, pA, pB, pC]
    refine tkP (i := 2) (v := .bool true) rfl ?_
    try simp only [Act.put, pA, pB, pC]
    refine tkP (i := 3) (v := .agg (scopeC s a1 a2 a3 a4 s.fImports.length s.fTypes.length s.fObjects.length s.fUses.length)) rfl ?_
    try simp only [Act.put, pA, pB, pC]
    refine tkP (i := 5) (v := .agg (scopeC s a1 a2 a3 a4 s.fImports.length s.fTypes.length s.fObjects.length s.fUses.length)) rfl ?_
    try simp only [Act.put, pA, pB, pC]
    refine wpAnyH_ready (rs := [4]) (by kernel_rfl) (by simp) ?_
    refine rdC rfl (fun K hK => ?_) AllReadyH.nil
    go_simp
    go_at_call 22
    refine (HE.out _ R1.out).mono ?_
    rintro e w2 ⟨b2, d2, b3, d3, rfl, _, _, ht, hob, hb2⟩
    have HT := Lib.hid ht
    have HO := Lib.hid hob
    clear ht hob
    have Y2 := Lib.hid (Y1.out.below hb2 Y1.out.lt)
    have R2 := Lib.hid (R1.out.below hb2)
    have B2 := Lib.hid (B1.out.trans (hb2.mono B1.out.size))
    clear hb2
    refine hK.out _ _ ?_ (fun hHeld2 => ?_)
    · try dsimp only
      exact box5 Y2.out
    clear hK K hHeld
    have hHeld := hHeld2
    clear hHeld2
    try simp only [Act.put, pA, pB, pC]
    refine wpAnyH_ready (rs := [6]) (by kernel_rfl) (by simp) ?_
    refine rdC rfl (fun K hK => ?_) AllReadyH.nil
    go_simp
    go_at_call 89
    refine (HS.out _ b2 b3 d2 d3 ⟨Rows.nil, HT.out.any, HO.out.any, Rows.nil⟩ R2.out).mono ?_
    rintro e w3 ⟨rfl, hb3⟩
    have Y3 := Lib.hid (Y2.out.below hb3 Y2.out.lt)
    have R3 := Lib.hid (R2.out.below hb3)
    have B3 := Lib.hid (B2.out.trans (hb3.mono B2.out.size))
    clear hb3
    refine hK.out _ _ ?_ (fun hHeld2 => ?_)
    · try dsimp only
      exact box5 Y3.out
    clear hK K hHeld
    have hHeld := hHeld2
    clear hHeld2
    try simp only [Act.put, pA, pB, pC]
    refine tkP (i := 7) (v := .bool qe) rfl ?_
    try simp only [Act.put, pA, pB, pC]
    refine tkP (i := 8) (v := .bool qe) rfl ?_
    try simp only [Act.put, pA, pB, pC]
    refine wpAnyH_done (by kernel_rfl) ?_ _
    --FB>
    go_wp2_with fail
    go_ret
    exact ⟨by rw [HQ.out]; rfl, B3.out⟩
  · have HQ := Lib.hid (isExp_no hp).2
    have HG := Lib.hid (fun W (hW : ScopeR Any W a1 a2 a3 a4 s) => by
      have h := sl4Good s a1 a2 a3 a4 s.fImports.length s.fTypes.length s.fObjects.length s.fUses.length W (KK.out.m hW)
      rw [scopeB_false hp] at h
      exact h)
    --FC<
    refine wp_region_held_drew (S := fun w' => w'.cell? ⟨y, 0, none⟩ = some (.string s.fName) ∧ w'.cell? ⟨y, 1, none⟩ = some (.slice a1 s.fImports.length s.fImports.length) ∧ w'.cell? ⟨y, 2, none⟩ = some (.slice a2 s.fTypes.length s.fTypes.length) ∧ w'.cell? ⟨y, 3, none⟩ = some (.slice a3 s.fObjects.length s.fObjects.length) ∧ w'.cell? ⟨y, 4, none⟩ = some (.slice a4 s.fUses.length s.fUses.length)) (by kernel_rfl) ?_ (fun hHeld => ?_)
    · try dsimp only
      exact box5 Y0.out
    refine tkP (i := 0) (v := .agg (scopeC s a1 a2 a3 a4 s.fImports.length s.fTypes.length s.fObjects.length s.fUses.length)) rfl ?_
    try simp only [Act.put, pA, pB, pC]
    refine wpAnyH_ready (rs := [1]) (by kernel_rfl) (by simp) ?_
    refine rdC rfl (fun K hK => ?_) AllReadyH.nil
    go_simp
    go_at_call 21
    refine (HG.out _ R0.out).mono ?_
    rintro e w1 ⟨rfl, hb1⟩
    have Y1 := Lib.hid (Y0.out.below hb1 Y0.out.lt)
    have R1 := Lib.hid (R0.out.below hb1)
    have B1 := Lib.hid (B0.out.trans (hb1.mono B0.out.size))
    clear hb1
    refine hK.out _ _ ?_ (fun hHeld2 => ?_)
    · try dsimp only
      exact box5 Y1.out
    clear hK K hHeld
    have hHeld := hHeld2
    clear hHeld2
    try simp only [Act.put, pA, pB, pC]
    refine tkP (i := 2) (v := .bool false) rfl ?_
    try simp only [Act.put, pA, pB, pC]
    refine tkS (i := 3) rfl ?_
    try simp only [Act.put, pA, pB, pC]
    refine tkS (i := 4) rfl ?_
    try simp only [Act.put, pA, pB, pC]
    refine tkS (i := 5) rfl ?_
    try simp only [Act.put, pA, pB, pC]
    refine tkS (i := 6) rfl ?_
    try simp only [Act.put, pA, pB, pC]
    refine tkP (i := 7) (v := .bool false) rfl ?_
    try simp only [Act.put, pA, pB, pC]
    refine tkP (i := 8) (v := .bool false) rfl ?_
    try simp only [Act.put, pA, pB, pC]
    refine wpAnyH_done (by kernel_rfl) ?_ _
    --FC>
    go_wp2_with fail
    go_ret
    exact ⟨by rw [HQ.out]; rfl, B1.out⟩

set_option maxHeartbeats 16000000 in
theorem sFileBytes (s : ScopeD) (a1 a2 a3 a4 : Option Addr) (w : World) (K : ScopeK s) (hr : ScopeR Any w a1 a2 a3 a4 s) :
    Calls Tryz.prog 13 #[.agg (scopeC s a1 a2 a3 a4 s.fImports.length s.fTypes.length s.fObjects.length s.fUses.length)] w fun e w' => e = .returned (.tuple #[.string (fileAns s), .bool (fileB s)]) ∧ Below w.heap.size w w' := by
  have B0 := Lib.hid ((Below.refl w.heap.size w).alloc (Nat.le_refl _) (.cells (scopeC s a1 a2 a3 a4 s.fImports.length s.fTypes.length s.fObjects.length s.fUses.length) 33))
  have X0 := Lib.hid (Box.new w 33 (scopeC s a1 a2 a3 a4 s.fImports.length s.fTypes.length s.fObjects.length s.fUses.length))
  have R0 := Lib.hid (hr.below B0.out)
  have HI := Lib.hid (fun W (hW : ScopeR Any W a1 a2 a3 a4 s) => sl7Is s a1 a2 a3 a4 W K hW)
  clear hr K
  cases hq : isExpB s
  · have HA := Lib.hid (show fileAns s = ⟨#[]⟩ ∧ fileB s = false by unfold fileAns fileB; rw [hq]; exact ⟨rfl, rfl⟩)
    rw [hq] at HI
    go_enter Tryz.func13, Tryz.ntmps13
    obtain ⟨x0, x1, x2, x3, x4⟩ := box5 X0.out
    go_wp2_with fail
    refine (HI.out _ R0.out).mono ?_
    rintro e w1 ⟨rfl, hb⟩
    have B1 := Lib.hid (B0.out.trans (hb.mono B0.out.size))
    clear hb x0 x1 x2 x3 x4
    go_wp2_with fail
    go_ret2
    exact ⟨by rw [HA.out.1, HA.out.2]; rfl, B1.out⟩
  · have F := Lib.hid (isExp_ok hq)
    have HF := Lib.hid (fun W (hW : ScopeR Any W a1 a2 a3 a4 s) => sl7File s a1 a2 a3 a4 W F.out hW)
    rw [hq] at HI
    by_cases hsz : (fileZ s).size ≤ 3000
    · have HA := Lib.hid (show fileAns s = fileZ s ∧ fileB s = true by
        have : fileB s = true := by unfold fileB; rw [hq, decide_eq_true hsz]; rfl
        unfold fileAns; rw [this]; exact ⟨rfl, rfl⟩)
      clear hq
      generalize fileZ s = FZ at *
      have hi1 : ¬ (3000 : Int) < (FZ.size : Int) := by omega
      go_enter Tryz.func13, Tryz.ntmps13
      obtain ⟨x0, x1, x2, x3, x4⟩ := box5 X0.out
      go_wp2_with fail
      refine (HI.out _ R0.out).mono ?_
      rintro e w1 ⟨rfl, hb⟩
      have B1 := Lib.hid (B0.out.trans (hb.mono B0.out.size))
      have X1 := Lib.hid (X0.out.below hb X0.out.lt)
      have R1 := Lib.hid (R0.out.below hb)
      clear hb x0 x1 x2 x3 x4
      obtain ⟨x0, x1, x2, x3, x4⟩ := box5 X1.out
      go_wp2_with fail
      refine (HF.out _ R1.out).mono ?_
      rintro e w2 ⟨rfl, hb⟩
      have B2 := Lib.hid (B1.out.trans (hb.mono B1.out.size))
      have X2 := Lib.hid (X1.out.below hb X1.out.lt)
      have R2 := Lib.hid (R1.out.below hb)
      clear hb x0 x1 x2 x3 x4
      obtain ⟨x0, x1, x2, x3, x4⟩ := box5 X2.out
      go_wp2_with fail
      refine (HF.out _ R2.out).mono ?_
      rintro e w3 ⟨rfl, hb⟩
      have B3 := Lib.hid (B2.out.trans (hb.mono B2.out.size))
      clear hb x0 x1 x2 x3 x4
      go_wp2_with fail
      go_ret2
      exact ⟨by rw [HA.out.1, HA.out.2]; rfl, B3.out⟩
    · have HA := Lib.hid (show fileAns s = ⟨#[]⟩ ∧ fileB s = false by
        have : fileB s = false := by unfold fileB; rw [hq, decide_eq_false hsz]; rfl
        unfold fileAns; rw [this]; exact ⟨rfl, rfl⟩)
      clear hq
      generalize fileZ s = FZ at *
      have hi1 : (3000 : Int) < (FZ.size : Int) := by omega
      go_enter Tryz.func13, Tryz.ntmps13
      obtain ⟨x0, x1, x2, x3, x4⟩ := box5 X0.out
      go_wp2_with fail
      refine (HI.out _ R0.out).mono ?_
      rintro e w1 ⟨rfl, hb⟩
      have B1 := Lib.hid (B0.out.trans (hb.mono B0.out.size))
      have X1 := Lib.hid (X0.out.below hb X0.out.lt)
      have R1 := Lib.hid (R0.out.below hb)
      clear hb x0 x1 x2 x3 x4
      obtain ⟨x0, x1, x2, x3, x4⟩ := box5 X1.out
      go_wp2_with fail
      refine (HF.out _ R1.out).mono ?_
      rintro e w2 ⟨rfl, hb⟩
      have B2 := Lib.hid (B1.out.trans (hb.mono B1.out.size))
      clear hb x0 x1 x2 x3 x4
      go_wp2_with fail
      go_ret2
      exact ⟨by rw [HA.out.1, HA.out.2]; rfl, B2.out⟩
end Go.Proofs.YtaccifjkeblhpaaGreat
