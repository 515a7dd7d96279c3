
/-
  What is proved: the contract of the model's l8Rounds. No condition beside what each theorem states.
-/
import Derived.Test.YtllddjmcemcdhaaGreatRoundsP
namespace Go.Proofs.YtllddjmcemcdhaaGreat
open Go.ChangeShapes Go.WideShapes Go.ChangeAt Go.RowKit
set_option maxRecDepth 100000

set_option maxHeartbeats 16000000 in
theorem sl8Rounds (a : Option Addr) (c : Nat) (l : List TypeD) (r : Nat) (w : World) (hl : l.length ≤ 24) (hrt : ∀ n (h : n < l.length), RT l.length l[n]) (hrn : r ≤ 25) (hr : Rows typeS Any w a l) :
    Calls Tryz.prog 19 #[.slice a l.length c, .int .i64 (r : Int)] w fun e w' => ∃ v, e = .returned v ∧ OwnInts w' w.heap.size v (roundsZ l r) ∧ Below w.heap.size w w' := by
  have Hr := Lib.hid hr
  have Hrt := Lib.hid hrt
  clear hr hrt
  go_enter Tryz.func19, Tryz.ntmps19
  go_wp2_with fail
  go_loopw [5, 17] (fun v i wr => ∃ k : Nat, i = .int .i64 k ∧ k ≤ l.length ∧ OwnInts wr w.heap.size v ((firstsZ l).take k) ∧ Below w.heap.size w wr) (fun _ i _ => l.length - (intOf i).toNat)
  case atStart => exact ⟨0, rfl, by omega, OwnInts.nil, Below.refl _ _⟩
  case round =>
    obtain ⟨V1, hV1⟩ : ∃ x, x = u5 := ⟨_, rfl⟩
    subst hV1
    obtain ⟨k, rfl, hk, hown, hbel⟩ := hrel
    by_cases hlt : k < l.length
    · have hT := Hrt.out k hlt
      obtain ⟨b, o, a3, c3, hba, hb1, e0, e1, e2, e3, e4, e5, hrf, hfc⟩ := type_cells Hr.out hlt hbel
      subst hba
      have hvl := World.ownsRow.lt hown
      have Hown := Lib.hid hown
      have Hbel := Lib.hid hbel
      have hsz := hbel.size
      have Hnx := Lib.hid (map_next firstZ hlt)
      have Hz := Lib.hid (show firstZ l[k] = mixL [l[k].fKind, l[k].fLong, textZ l[k].fOwner, textZ l[k].fName, (l[k].fFields.length : Int)] from rfl)
      have HO := Lib.hid (fun W => sl8Text l[k].fOwner W hT.owner)
      have HN := Lib.hid (fun W => sl8Text l[k].fName W hT.name)
      have hm1 : Hid True := Lib.hid trivial
      clear hown hbel hrf hfc hT
      generalize l[k] = t at *
      go_wp2_with fail
      have X0 := Lib.hid (Box.new wr 110 #[.int .i64 t.fKind, .int .i64 t.fLong, .int .i64 t.fBase, .slice a3 t.fFields.length c3, .string t.fOwner, .string t.fName])
      have B0 := Lib.hid (Hbel.out.alloc hsz (.cells #[.int .i64 t.fKind, .int .i64 t.fLong, .int .i64 t.fBase, .slice a3 t.fFields.length c3, .string t.fOwner, .string t.fName] 110))
      have O0 := Lib.hid (Hown.out.alloc (.cells #[.int .i64 t.fKind, .int .i64 t.fLong, .int .i64 t.fBase, .slice a3 t.fFields.length c3, .string t.fOwner, .string t.fName] 110))
      clear Hbel Hown
      have hq0 : wr.heap.size < (wr.alloc (.cells #[.int .i64 t.fKind, .int .i64 t.fLong, .int .i64 t.fBase, .slice a3 t.fFields.length c3, .string t.fOwner, .string t.fName] 110)).heap.size := by simp
      generalize wr.alloc (.cells #[.int .i64 t.fKind, .int .i64 t.fLong, .int .i64 t.fBase, .slice a3 t.fFields.length c3, .string t.fOwner, .string t.fName] 110) = wq at *
      have hbq := B0.out.size
      go_region_held3 (fun w' => w'.cell? ⟨wr.heap.size, 0, none⟩ = some (.int .i64 t.fKind) ∧ w'.cell? ⟨wr.heap.size, 1, none⟩ = some (.int .i64 t.fLong) ∧ w'.cell? ⟨wr.heap.size, 2, none⟩ = some (.int .i64 t.fBase) ∧ w'.cell? ⟨wr.heap.size, 3, none⟩ = some (.slice a3 t.fFields.length c3) ∧ w'.cell? ⟨wr.heap.size, 4, none⟩ = some (.string t.fOwner) ∧ w'.cell? ⟨wr.heap.size, 5, none⟩ = some (.string t.fName))
        (first
          | exact box6 X4.out
          | exact box6 (X2.out.alloc _)
          | exact box6 X2.out
          | exact box6 X1.out
          | exact box6 X0.out
          | go_keep)
        (first
          | (go_at_call 44; have hm2 := hm1; clear hm1; refine (HO.out _).mono ?_; rintro e wa ⟨rfl, hba⟩; have hbd : Below wq.heap.size wq wa := ⟨hba.os, hba.tape, hba.output, hba.size, hba.block⟩; have X1 := Lib.hid (X0.out.below hbd X0.out.lt); have O1 := Lib.hid (O0.out.below hbd); have B1 := Lib.hid (B0.out.trans (hbd.mono hbq)); have hb1 := B1.out.size; clear hba hbd)
          | (go_at_call 44; refine (HN.out _).mono ?_; rintro e wb ⟨rfl, hbb⟩; have X2 := Lib.hid (X1.out.below hbb X1.out.lt); have O2 := Lib.hid (O1.out.below hbb); have B2 := Lib.hid (B1.out.trans (hbb.mono hb1)); have hb2 := B2.out.size; clear hbb)
          | (go_at_call 45; refine (sMixBox _ _ _ [t.fKind, t.fLong, textZ t.fOwner, textZ t.fName, (t.fFields.length : Int)] _ (Box.new _ _ _) rfl (by simp)).mono ?_; rintro e wc ⟨rfl, rfl⟩; rw [← Hz.out])
          | (refine step_pushInts rfl _ _ rfl w.heap.size _ _ ((firstsZ l).take k) rfl ((O2.out.alloc _).alloc _) [firstZ t] _ _ _ rfl rfl (Box.new' _ _ _ (by simp)) (by simp) (by first | omega | (simp; done) | (simp; omega)) (by first | omega | (simp; done) | (simp; omega)) ?_; intro v' w4 hown4 hg4 _; have X4 := Lib.hid (box_grown ((X2.out.alloc _).alloc _) hg4 (fun k hk => Nat.ne_of_lt (hvl k hk).2)); have O4 := Lib.hid hown4; have B4 := Lib.hid (((B2.out.alloc hb2 _).alloc (by first | omega | (simp; done) | (simp; omega)) _).grown hg4 (by first | omega | (simp; done) | (simp; omega)) (fun k hk => (hvl k hk).1)); clear hown4 hg4)
          | fail)
      have O5 := Lib.hid (show OwnInts w4 w.heap.size v' ((firstsZ l).take (k + 1)) by rw [show firstsZ l = l.map firstZ from rfl, Hnx.out]; exact O4.out)
      clear X0 X1 X2 X4 O0 O1 O2 O4 B0 B1 B2 HO HN Hnx Hz
      go_wp2_with fail
      exact ⟨⟨k + 1, by congr 1, by omega, O5.out, B4.out⟩, by simp [intOf]; omega⟩
    · have Ho := Lib.hid (show OwnInts wr w.heap.size V1 (firstsZ l) by have h := hown; rw [show (firstsZ l).take k = firstsZ l from map_all firstZ hlt] at h; exact h)
      have Hfl := Lib.hid (show (firstsZ l).length = l.length by simp [firstsZ])
      obtain ⟨fa, fc, rfl, hfc, hfn⟩ := Ho.out.nums
      have Hfn := Lib.hid hfn
      have Hbel := Lib.hid hbel
      have hsz := hbel.size
      clear hown hbel hfn
      go_wp2_with fail
      refine (sl1Own fa fc (firstsZ l) _ (by rw [Hfl.out]; omega) Hfn.out).mono ?_
      rintro e w2 ⟨v2, rfl, hown2, hb2⟩
      have HF := Lib.hid (Hfn.out.below hb2)
      have O2 := Lib.hid (hown2.lower hsz)
      have B2 := Lib.hid (Hbel.out.trans (hb2.mono hsz))
      have hs2 := B2.out.size
      have HR2 := Lib.hid (Hr.out.below B2.out)
      clear hown2 hb2 Ho Hbel Hfn
      go_wp2_with fail
      go_loopw [1, 8] (fun x v wr => ∃ j m : Nat, x = .int .i64 m ∧ m + j = r ∧ OwnInts wr w.heap.size v (roundsZ l j) ∧ Below w2.heap.size w2 wr) (fun x _ _ => (intOf x).toNat)
      case atStart => exact ⟨0, r, rfl, by omega, O2.out, Below.refl _ _⟩
      case round =>
        obtain ⟨wo, hwo⟩ : ∃ y, y = wr := ⟨_, rfl⟩
        subst hwo
        obtain ⟨j, m, rfl, hjm, hown, hbel⟩ := hrel
        by_cases hm0 : 0 < m
        · obtain ⟨na, nc, rfl, hnc, hnn⟩ := hown.nums
          have hal := roundsZ_len l j
          have Hstep := Lib.hid (show roundsZ l (j + 1) = l.map (behindZ (roundsZ l j)) from rfl)
          have HA := Lib.hid hnn
          have HBo := Lib.hid hbel
          have hso := hbel.size
          clear hown hbel hnn
          generalize roundsZ l j = ah at *
          have Hal := Lib.hid hal
          rw [hal] at hnc
          clear hal
          go_wp2_with fail
          go_loopw [9, 48] (fun v i wr => ∃ k : Nat, i = .int .i64 k ∧ k ≤ l.length ∧ OwnInts wr wo.heap.size v ((l.map (behindZ ah)).take k) ∧ Below wo.heap.size wo wr) (fun _ i _ => l.length - (intOf i).toNat)
          case atStart => exact ⟨0, rfl, by omega, OwnInts.nil, Below.refl _ _⟩
          case round =>
            obtain ⟨wp, hwp⟩ : ∃ y, y = wr := ⟨_, rfl⟩
            subst hwp
            obtain ⟨V9, hV9⟩ : ∃ x, x = u9 := ⟨_, rfl⟩
            subst hV9
            obtain ⟨q, rfl, hq, hown, hbel⟩ := hrel
            by_cases hlq : q < l.length
            · have hT := Hrt.out q hlq
              have Hbq := Lib.hid (HBo.out.trans (hbel.mono hso))
              obtain ⟨b, o, a3, c3, hba, hb1, e0, e1, e2, e3, e4, e5, hrf, hfc⟩ := type_cells HR2.out hlq Hbq.out
              subst hba
              obtain ⟨fb, fo, hfe, hfb, hfcell⟩ := HF.out q (by rw [Hfl.out]; exact hlq)
              subst hfe
              have ef := (Hbq.out.cell (p := ⟨fb, fo + q, none⟩) hfb).trans hfcell
              rw [show (firstsZ l)[q]'(by rw [Hfl.out]; exact hlq) = firstZ l[q] by simp [firstsZ]] at ef
              obtain ⟨nb, no, hne, _, _⟩ := HA.out q (by rw [Hal.out]; exact hlq)
              subst hne
              have HA2 := Lib.hid (show ∀ n (h : n < l.length), nb < wo.heap.size ∧ wo.cell? ⟨nb, no + n, none⟩ = some (.int .i64 (ah.getD n 0)) from fun n h => HA.out.at n (by rw [Hal.out]; exact h))
              have hvl := World.ownsRow.lt hown
              have hsp := hbel.size
              have Hown := Lib.hid hown
              have Hbel := Lib.hid hbel
              have Hnx := Lib.hid (map_next (behindZ ah) hlq)
              have Hz := Lib.hid (show behindZ ah l[q] = mixL ([firstZ l[q], baseRZ ah l[q]] ++ fieldsZ ah l[q].fFields) from rfl)
              have HT := Lib.hid hT
              have HRF := Lib.hid hrf
              have i1 : (0 : Int) ≤ (q : Int) := by omega
              have i2 : (q : Int) < (l.length : Int) := by omega
              have i3 : q < (firstsZ l).length := by rw [Hfl.out]; exact hlq
              have i4 : (q : Int) < ((firstsZ l).length : Int) := by omega
              clear hown hbel hrf hfc hT hfcell
              generalize l[q] = t at *
              obtain ⟨F, hF⟩ : ∃ F, firstZ t = F := ⟨_, rfl⟩
              rw [hF] at ef Hz
              clear hF
              have ef2 := fun ob => (World.cell?_alloc_lt wp ob ⟨fb, fo + q, none⟩ (World.block_lt_of_cell? _ _ ef)).trans ef
              obtain ⟨kd, lg, bs, fs, ow, nm⟩ := t
              obtain ⟨bz, hbz⟩ : ∃ z, baseRZ ah ⟨kd, lg, bs, fs, ow, nm⟩ = z := ⟨_, rfl⟩
              have HT6 := HT.out.six
              have HTb := HT.out.base
              have HTf := Lib.hid HT.out.field
              rw [hbz] at Hz
              dsimp only at *
              by_cases hbs : bs = -1
              case' pos =>
                subst hbs
                obtain rfl : bz = 7 := hbz.symm.trans (if_pos rfl)
                clear hbz HTb HT
                go_wp2_with fail
                have P5 := Lib.hid (Box.new' (g := wp.heap.size + 1) (wp.alloc (.cells #[.int .i64 kd, .int .i64 lg, .int .i64 (-1), .slice a3 fs.length c3, .string ow, .string nm] 110)) 3 #[.int .i64 F, .int .i64 7] (by simp))
                have B5 := Lib.hid ((((Below.refl wp.heap.size wp).alloc (Nat.le_refl _) (.cells #[.int .i64 kd, .int .i64 lg, .int .i64 (-1), .slice a3 fs.length c3, .string ow, .string nm] 110)).alloc (by simp) (.cells #[.int .i64 F, .int .i64 7] 3)))
                generalize (wp.alloc (.cells #[.int .i64 kd, .int .i64 lg, .int .i64 (-1), .slice a3 fs.length c3, .string ow, .string nm] 110)).alloc (.cells #[.int .i64 F, .int .i64 7] 3) = w5 at *
                generalize (7 : Int) = bz at Hz P5
                clear ef2 ef e0 e1 e2 e3 e4 e5
              case' neg =>
                obtain ⟨n, rfl⟩ := Int.eq_ofNat_of_zero_le (show 0 ≤ bs by omega)
                have hn : n < l.length := by omega
                have hna : n < ah.length := by rw [Hal.out]; exact hn
                obtain rfl : bz = ah.getD n 0 := hbz.symm.trans (by unfold baseRZ; rw [if_neg hbs]; rfl)
                have j1 : (0 : Int) ≤ (n : Int) := by omega
                have j2 : (n : Int) < (ah.length : Int) := by omega
                have hnb := (HA2.out n hn).1
                have en := (Hbel.out.cell (p := ⟨nb, no + n, none⟩) hnb).trans (HA2.out n hn).2
                generalize ah.getD n 0 = bz at *
                have en2 := fun ob => (World.cell?_alloc_lt wp ob ⟨nb, no + n, none⟩ (World.block_lt_of_cell? _ _ en)).trans en
                have en3 := fun ob ob' => (World.cell?_alloc_lt (wp.alloc ob') ob ⟨nb, no + n, none⟩ (World.block_lt_of_cell? _ _ (en2 ob'))).trans (en2 ob')
                clear hbz HTb HT
                go_wp2_with fail
                have P5 := Lib.hid (Box.new' (g := wp.heap.size + 1) (wp.alloc (.cells #[.int .i64 kd, .int .i64 lg, .int .i64 (n : Int), .slice a3 fs.length c3, .string ow, .string nm] 110)) 3 #[.int .i64 F, .int .i64 bz] (by simp))
                have B5 := Lib.hid ((((Below.refl wp.heap.size wp).alloc (Nat.le_refl _) (.cells #[.int .i64 kd, .int .i64 lg, .int .i64 (n : Int), .slice a3 fs.length c3, .string ow, .string nm] 110)).alloc (by simp) (.cells #[.int .i64 F, .int .i64 bz] 3)))
                generalize (wp.alloc (.cells #[.int .i64 kd, .int .i64 lg, .int .i64 (n : Int), .slice a3 fs.length c3, .string ow, .string nm] 110)).alloc (.cells #[.int .i64 F, .int .i64 bz] 3) = w5 at *
                clear ef2 ef e0 e1 e2 e3 e4 e5 en en2 en3 hnb j1 j2 hna hn hbs
              all_goals
                have Hnz := Lib.hid (show (l.map (behindZ ah)).take (q + 1) = (l.map (behindZ ah)).take q ++ [mixL ([F, bz] ++ fieldsZ ah fs)] by rw [Hnx.out, Hz.out])
                have O5 := Lib.hid (OwnInts.ofBox (l := [F, bz]) (B := wp.heap.size + 1) P5.out (Nat.le_refl _) (by unfold maxLen; simp))
                have hs5 : wp.heap.size + 1 ≤ w5.heap.size := Nat.le_of_lt P5.out.lt
                clear Hnx Hz P5
                go_loopw [12, 71] (fun v i wr => ∃ m : Nat, i = .int .i64 m ∧ m ≤ fs.length ∧ OwnInts wr (wp.heap.size + 1) v ([F, bz] ++ fieldsZ ah (fs.take m)) ∧ Below (wp.heap.size + 1) w5 wr) (fun _ i _ => fs.length - (intOf i).toNat)
                case atStart => exact ⟨0, rfl, by omega, by rw [fieldsZ_zero]; exact O5.out, Below.refl _ _⟩
                case round =>
                  obtain ⟨wf, hwf⟩ : ∃ y, y = wr := ⟨_, rfl⟩
                  subst hwf
                  obtain ⟨V12, hV12⟩ : ∃ x, x = u12 := ⟨_, rfl⟩
                  subst hV12
                  obtain ⟨p, rfl, hp, hown, hbel⟩ := hrel
                  have Bf := Lib.hid (B5.out.trans (hbel.mono (by omega)))
                  have hsf := Nat.le_trans hs5 hbel.size
                  have Of := Lib.hid hown
                  have Gf := Lib.hid hbel
                  have hvf := World.ownsRow.lt hown
                  have hlen : ([F, bz] ++ fieldsZ ah (fs.take p)).length ≤ 20 := by rw [List.length_append, fieldsZ_len, List.length_take]; simp; omega
                  have hlen2 : (fieldsZ ah (fs.take p)).length ≤ 18 := by rw [fieldsZ_len, List.length_take]; omega
                  clear hown hbel
                  by_cases hlp : p < fs.length
                  · obtain ⟨xb, xo, cs, hfa, _, hxb, hxc, hat⟩ := HRF.out p hlp
                    obtain rfl : cs = [.string fs[p].fName, .int .i64 fs[p].fMark, .int .i64 fs[p].fType] := hat
                    subst hfa
                    have g0 := (Bf.out.cell (p := ⟨xb, xo + p * 3 + 0, none⟩) hxb).trans (hxc 0 (by decide))
                    have g1 := (Bf.out.cell (p := ⟨xb, xo + p * 3 + 1, none⟩) hxb).trans (hxc 1 (by decide))
                    have g2 := (Bf.out.cell (p := ⟨xb, xo + p * 3 + 2, none⟩) hxb).trans (hxc 2 (by decide))
                    simp at g0 g1 g2
                    have hft := HTf.out p hlp
                    have Hfn := Lib.hid (fieldsZ_next ah hlp)
                    have HN := Lib.hid (fun W => sl8Text fs[p].fName W hft.1)
                    have Hfz := Lib.hid (show fieldZ ah fs[p] = [textZ fs[p].fName, fs[p].fMark, ah.getD fs[p].fType.toNat 0] from rfl)
                    have hft2 := hft.2
                    clear hxc hft
                    generalize fs[p] = f at *
                    obtain ⟨fnm, fmk, fty⟩ := f
                    dsimp only at *
                    obtain ⟨n, rfl⟩ := Int.eq_ofNat_of_zero_le hft2.1
                    have hn : n < l.length := by omega
                    have j1 : (0 : Int) ≤ (n : Int) := by omega
                    have j2 : (n : Int) < (ah.length : Int) := by rw [Hal.out]; omega
                    have hnb := (HA2.out n hn).1
                    have en := (Bf.out.cell (p := ⟨nb, no + n, none⟩) (by have := hsp; show nb < wp.heap.size; omega)).trans ((Hbel.out.cell (p := ⟨nb, no + n, none⟩) hnb).trans (HA2.out n hn).2)
                    rw [show ((n : Int)).toNat = n from rfl] at Hfz
                    generalize ah.getD n 0 = az at *
                    obtain ⟨tz, htz⟩ : ∃ z, textZ fnm = z := ⟨_, rfl⟩
                    rw [htz] at HN Hfz
                    clear htz
                    go_wp2_with fail
                    have X0 := Lib.hid (Box.new wf 113 #[.string fnm, .int .i64 fmk, .int .i64 (n : Int)])
                    have B0 := Lib.hid (Gf.out.alloc hsf (.cells #[.string fnm, .int .i64 fmk, .int .i64 (n : Int)] 113))
                    have O0 := Lib.hid (Of.out.alloc (.cells #[.string fnm, .int .i64 fmk, .int .i64 (n : Int)] 113))
                    have n0 := (World.cell?_alloc_lt wf (.cells #[.string fnm, .int .i64 fmk, .int .i64 (n : Int)] 113) ⟨nb, no + n, none⟩ (World.block_lt_of_cell? _ _ en)).trans en
                    have hnbf := World.block_lt_of_cell? _ _ en
                    clear Gf Of
                    have hq0 : wf.heap.size < (wf.alloc (.cells #[.string fnm, .int .i64 fmk, .int .i64 (n : Int)] 113)).heap.size := by simp
                    generalize wf.alloc (.cells #[.string fnm, .int .i64 fmk, .int .i64 (n : Int)] 113) = wq at *
                    have hbq := Nat.le_trans hsf (Nat.le_of_lt hq0)
                    go_region_held3 (fun w' => (w'.cell? ⟨wf.heap.size, 0, none⟩ = some (.string fnm) ∧ w'.cell? ⟨wf.heap.size, 1, none⟩ = some (.int .i64 fmk) ∧ w'.cell? ⟨wf.heap.size, 2, none⟩ = some (.int .i64 (n : Int))) ∧ w'.cell? ⟨nb, no + n, none⟩ = some (.int .i64 az))
                      (first
                        | exact ⟨box3 X4.out, n4⟩
                        | exact ⟨box3 (X1.out.alloc _), n2 _⟩
                        | exact ⟨box3 X1.out, n1⟩
                        | exact ⟨box3 X0.out, n0⟩
                        | go_keep)
                      (first
                        | (go_at_call 44; refine (HN.out _).mono ?_; rintro e wa ⟨rfl, hba⟩; have hbd : Below wq.heap.size wq wa := ⟨hba.os, hba.tape, hba.output, hba.size, hba.block⟩; have X1 := Lib.hid (X0.out.below hbd X0.out.lt); have O1 := Lib.hid (O0.out.below hbd); have B1 := Lib.hid (B0.out.trans (hbd.mono hbq)); have n1 := (hbd.cell (p := ⟨nb, no + n, none⟩) (World.block_lt_of_cell? _ _ n0)).trans n0; have n2 := fun ob => (World.cell?_alloc_lt wa ob ⟨nb, no + n, none⟩ (World.block_lt_of_cell? _ _ n1)).trans n1; have hb1 := Nat.le_trans hbq hbd.size; clear hba hbd)
                        | (refine step_pushInts rfl _ _ rfl (wp.heap.size + 1) _ _ ([F, bz] ++ fieldsZ ah (fs.take p)) rfl (O1.out.alloc _) [tz, fmk, az] _ _ _ rfl rfl (Box.new' _ _ _ rfl) (by simp) (by first | omega | (simp; done) | (simp; omega)) (by first | omega | (simp; done) | (simp; omega)) ?_; intro v' w4 hown4 hg4 _; have X4 := Lib.hid (box_grown (X1.out.alloc _) hg4 (fun k hk => Nat.ne_of_lt (hvf k hk).2)); have n4 := (hg4.cell (a := ⟨nb, no + n, none⟩) (n2 _) (fun e => absurd (hvf _ e.symm).1 (show ¬ wp.heap.size + 1 ≤ nb by omega))); have O4 := Lib.hid hown4; have B4 := Lib.hid (((B1.out.alloc hb1 _)).grown hg4 (by first | omega | (simp; done) | (simp; omega)) (fun k hk => (hvf k hk).1)); clear hown4 hg4)
                        | fail)
                    have O6 := Lib.hid (show OwnInts w4 (wp.heap.size + 1) v' ([F, bz] ++ fieldsZ ah (fs.take (p + 1))) by rw [Hfn.out, Hfz.out, ← List.append_assoc]; exact O4.out)
                    clear X0 X1 X4 O0 O1 O4 B0 B1 HN Hfn Hfz n0 n1 n2 n4
                    go_wp2_with fail
                    exact ⟨⟨p + 1, by congr 1, by omega, O6.out, B4.out⟩, by simp [intOf]; omega⟩
                  · have Hpa := Lib.hid (show [F, bz] ++ fieldsZ ah (fs.take p) = [F, bz] ++ fieldsZ ah fs by rw [List.take_of_length_le (by omega)])
                    have Of2 := Lib.hid (Hpa.out ▸ Of.out)
                    have Hl20 := Lib.hid (Hpa.out ▸ hlen)
                    obtain ⟨pa, pc, rfl, _, hpn⟩ := Of2.out.nums
                    have Hpn := Lib.hid hpn
                    have Bw := Lib.hid (Hbel.out.trans (Bf.out.mono hsp))
                    have On := Lib.hid (Hown.out.keep (fun k hk => Bf.out.block k (hvl k hk).2))
                    have hsw := Bw.out.size
                    clear hpn hlen Hpa Of
                    go_wp2_with fail
                    refine (sMixed pa pc ([F, bz] ++ fieldsZ ah fs) _ (by have := Hl20.out; omega) Hpn.out.ints).mono ?_
                    rintro e w' ⟨rfl, rfl⟩
                    generalize mixL ([F, bz] ++ fieldsZ ah fs) = z at *
                    go_wp2_with (at_builtin; refine wpList_pushInt rfl _ _ rfl wo.heap.size _ _ ((l.map (behindZ ah)).take q) rfl On.out _ _ rfl rfl ?c1 hsw ?_)
                    case c1 => rw [List.length_take]; omega
                    intro v' w6 hown6 hg6 hlt6
                    have B6 := Lib.hid (Bw.out.grown hg6 hsw (fun k hk => (hlt6 k hk).1))
                    have O6 := Lib.hid (Hnz.out ▸ hown6)
                    clear hown6 hg6 hlt6
                    go_wp2_with fail
                    exact ⟨⟨q + 1, by congr 1, by omega, O6.out, B6.out⟩, by simp [intOf]; omega⟩
            · have Ho := Lib.hid (show OwnInts wp w.heap.size V9 (roundsZ l (j + 1)) by have h := hown; rw [map_all (behindZ ah) hlq] at h; rw [Hstep.out]; exact h.lower (Nat.le_trans hs2 hso))
              have Bw := Lib.hid (HBo.out.trans (hbel.mono hso))
              clear hown hbel
              go_wp2_with fail
              exact ⟨⟨j + 1, m - 1, by congr 1; omega, by omega, Ho.out, Bw.out⟩, by simp [intOf]; omega⟩
        · obtain rfl : m = 0 := by omega
          obtain rfl : j = r := by omega
          have Ho := Lib.hid hown
          have Bw := Lib.hid (B2.out.trans (hbel.mono hs2))
          clear hown hbel
          go_wp2_with fail
          go_ret
          exact ⟨_, rfl, Ho.out, Bw.out⟩
end Go.Proofs.YtllddjmcemcdhaaGreat
