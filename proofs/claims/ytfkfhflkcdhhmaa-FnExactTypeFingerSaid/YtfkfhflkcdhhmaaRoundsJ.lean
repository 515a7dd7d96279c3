
/-
  What is proved: the contract of the program's method sumBehind. No condition beside what the theorem states.
-/
import Derived.Test.YtfkfhflkcdhhmaaRoundsI
namespace Go.Proofs.Ytfkfhflkcdhhmaa
open Go.ChangeShapes Go.WideShapes Go.ChangeAt Go.RowKit
set_option maxRecDepth 100000

set_option maxHeartbeats 16000000 in
theorem iSumBehind (ah : List Int) (aa : Option Addr) (ac : Nat) (t : TypeD) (a3 : Option Addr) (c3 : Nat) (an : Option Addr) (cn : Nat) (w : World) (ht : RT ah.length t) (hr : Rows fieldS Any w a3 t.fFields) (hn : Nums w an (namesZ t)) (ha : Nums w aa ah) :
    Calls Try.prog 118 #[.agg #[.int .i64 t.fKind, .int .i64 t.fLong, .int .i64 t.fBase, .slice a3 t.fFields.length c3, .string t.fOwner, .string t.fName, .int .i64 (firstZ t), .slice an t.fFields.length cn], .slice aa ah.length ac] w fun e w' => e = .returned (.int .i64 (behindZ ah t)) ∧ Below w.heap.size w w' := by
  have Hr := Lib.hid hr
  have Hn := Lib.hid hn
  have Ha := Lib.hid ha
  have Hz := Lib.hid (show behindZ ah t = mixL ([firstZ t, baseZ ah t] ++ fieldsZ ah t.fFields) from rfl)
  have HF := Lib.hid ht.field
  have hb := ht.base
  have h6 := ht.six
  have Hnl := Lib.hid (show namesZ t = t.fFields.map (fun f => textZ f.fName) from rfl)
  clear hr hn ha ht
  obtain ⟨bh, hbh⟩ : ∃ z, behindZ ah t = z := ⟨_, rfl⟩
  rw [hbh] at Hz
  rw [hbh]
  clear hbh
  obtain ⟨N, hN⟩ : ∃ N, namesZ t = N := ⟨_, rfl⟩
  rw [hN] at Hnl Hn
  clear hN
  obtain ⟨F, hF⟩ : ∃ F, firstZ t = F := ⟨_, rfl⟩
  rw [hF] at Hz
  rw [hF]
  clear hF
  obtain ⟨bz, hbz⟩ : ∃ z, baseZ ah t = z := ⟨_, rfl⟩
  rw [hbz] at Hz
  obtain ⟨kd, lg, bs, fs, ow, nm⟩ := t
  dsimp only at *
  go_enter Try.func118, Try.ntmps118
  by_cases hbs : bs = -1
  case' pos =>
    subst hbs
    obtain rfl : bz = 7 := hbz.symm.trans (if_pos rfl)
    clear hbz hb
    go_wp2_with fail
    have P5 := Lib.hid (Box.new' (g := w.heap.size + 1) (w.alloc (.cells #[.int .i64 kd, .int .i64 lg, .int .i64 (-1), .slice a3 fs.length c3, .string ow, .string nm, .int .i64 F, .slice an fs.length cn] 141)) 3 #[.int .i64 F, .int .i64 7] (by simp))
    have T5 := Lib.hid ((Box.new w 141 #[.int .i64 kd, .int .i64 lg, .int .i64 (-1), .slice a3 fs.length c3, .string ow, .string nm, .int .i64 F, .slice an fs.length cn]).alloc (.cells #[.int .i64 F, .int .i64 7] 3))
    have B5 := Lib.hid ((((Below.refl w.heap.size w).alloc (Nat.le_refl _) (.cells #[.int .i64 kd, .int .i64 lg, .int .i64 (-1), .slice a3 fs.length c3, .string ow, .string nm, .int .i64 F, .slice an fs.length cn] 141)).alloc (by simp) (.cells #[.int .i64 F, .int .i64 7] 3)))
    generalize (w.alloc (.cells #[.int .i64 kd, .int .i64 lg, .int .i64 (-1), .slice a3 fs.length c3, .string ow, .string nm, .int .i64 F, .slice an fs.length cn] 141)).alloc (.cells #[.int .i64 F, .int .i64 7] 3) = w5 at *
    have q7 : _ = some (Value.slice an fs.length cn) := T5.out.cell 7
    clear T5
    generalize (7 : Int) = bz at Hz P5
  case' neg =>
    obtain ⟨n, rfl⟩ := Int.eq_ofNat_of_zero_le (show 0 ≤ bs by omega)
    have hn : n < ah.length := by omega
    obtain rfl : bz = ah.getD n 0 := hbz.symm.trans (by unfold baseZ; rw [if_neg hbs]; rfl)
    have j1 : (0 : Int) ≤ (n : Int) := by omega
    have j2 : (n : Int) < (ah.length : Int) := by omega
    obtain ⟨nb, no, hne, _, _⟩ := Ha.out n hn
    subst hne
    have hnb := (Ha.out.at n hn).1
    have en := (Ha.out.at n hn).2
    generalize ah.getD n 0 = bz at *
    have en2 := fun ob => (World.cell?_alloc_lt w ob ⟨nb, no + n, none⟩ (World.block_lt_of_cell? _ _ en)).trans en
    have hbs2 : ((n : Int) == -1) = false := beq_eq_false_iff_ne.2 hbs
    clear hbz hb
    go_wp2_with fail
    have P5 := Lib.hid (Box.new' (g := w.heap.size + 1) (w.alloc (.cells #[.int .i64 kd, .int .i64 lg, .int .i64 (n : Int), .slice a3 fs.length c3, .string ow, .string nm, .int .i64 F, .slice an fs.length cn] 141)) 3 #[.int .i64 F, .int .i64 bz] (by simp))
    have T5 := Lib.hid ((Box.new w 141 #[.int .i64 kd, .int .i64 lg, .int .i64 (n : Int), .slice a3 fs.length c3, .string ow, .string nm, .int .i64 F, .slice an fs.length cn]).alloc (.cells #[.int .i64 F, .int .i64 bz] 3))
    have B5 := Lib.hid ((((Below.refl w.heap.size w).alloc (Nat.le_refl _) (.cells #[.int .i64 kd, .int .i64 lg, .int .i64 (n : Int), .slice a3 fs.length c3, .string ow, .string nm, .int .i64 F, .slice an fs.length cn] 141)).alloc (by simp) (.cells #[.int .i64 F, .int .i64 bz] 3)))
    generalize (w.alloc (.cells #[.int .i64 kd, .int .i64 lg, .int .i64 (n : Int), .slice a3 fs.length c3, .string ow, .string nm, .int .i64 F, .slice an fs.length cn] 141)).alloc (.cells #[.int .i64 F, .int .i64 bz] 3) = w5 at *
    have q7 : _ = some (Value.slice an fs.length cn) := T5.out.cell 7
    clear en en2 hnb j1 j2 hbs hbs2 T5
  all_goals
    have O5 := Lib.hid (OwnInts.ofBox (l := [F, bz]) (B := w.heap.size + 1) P5.out (Nat.le_refl _) (by unfold maxLen; simp))
    have hs5 : w.heap.size + 1 ≤ w5.heap.size := Nat.le_of_lt P5.out.lt
    clear P5
    go_loopw [6, 27] (fun v i wr => ∃ m : Nat, i = .int .i64 m ∧ m ≤ fs.length ∧ OwnInts wr (w.heap.size + 1) v ([F, bz] ++ fieldsZ ah (fs.take m)) ∧ Below (w.heap.size + 1) w5 wr) (fun _ i _ => fs.length - (intOf i).toNat)
    case atStart => exact ⟨0, rfl, by omega, by rw [fieldsZ_zero]; exact O5.out, Below.refl _ _⟩
    case round =>
      obtain ⟨wf, hwf⟩ : ∃ y, y = wr := ⟨_, rfl⟩
      subst hwf
      obtain ⟨V6, hV6⟩ : ∃ x, x = u6 := ⟨_, rfl⟩
      subst hV6
      obtain ⟨p, rfl, hp, hown, hbel⟩ := hrel
      have Bf := Lib.hid (B5.out.trans (hbel.mono (by omega)))
      have hsf := Nat.le_trans hs5 hbel.size
      have Of := Lib.hid hown
      have Gf := Lib.hid hbel
      have hvf := World.ownsRow.lt hown
      have hlen : ([F, bz] ++ fieldsZ ah (fs.take p)).length ≤ 20 := by rw [List.length_append, fieldsZ_len, List.length_take]; simp; omega
      have hlen2 : (fieldsZ ah (fs.take p)).length ≤ 18 := by rw [fieldsZ_len, List.length_take]; omega
      have r7 := (hbel.cell (p := ⟨w.heap.size, 7, none⟩) (Nat.lt_succ_self _)).trans q7
      clear hown hbel
      by_cases hlp : p < fs.length
      · obtain ⟨xb, xo, cs, hfa, _, hxb, hxc, hat⟩ := Hr.out p hlp
        obtain rfl : cs = [.string fs[p].fName, .int .i64 fs[p].fMark, .int .i64 fs[p].fType] := hat
        subst hfa
        have g0 := (Bf.out.cell (p := ⟨xb, xo + p * 3 + 0, none⟩) hxb).trans (hxc 0 (by decide))
        have g1 := (Bf.out.cell (p := ⟨xb, xo + p * 3 + 1, none⟩) hxb).trans (hxc 1 (by decide))
        have g2 := (Bf.out.cell (p := ⟨xb, xo + p * 3 + 2, none⟩) hxb).trans (hxc 2 (by decide))
        simp at g0 g1 g2
        have hpN : p < N.length := by rw [Hnl.out, List.length_map]; exact hlp
        obtain ⟨mb, mo, hme, _, _⟩ := Hn.out p hpN
        subst hme
        have em := (Bf.out.cell (p := ⟨mb, mo + p, none⟩) (Hn.out.at p hpN).1).trans (Hn.out.at p hpN).2
        rw [show N.getD p 0 = textZ fs[p].fName by rw [Hnl.out]; simp [List.getD, hlp]] at em
        have hft := HF.out p hlp
        have Hfn := Lib.hid (fieldsZ_next ah hlp)
        have Hfz := Lib.hid (show fieldZ ah fs[p] = [textZ fs[p].fName, fs[p].fMark, ah.getD fs[p].fType.toNat 0] from rfl)
        have hft2 := hft.2
        have k1 : (0 : Int) ≤ (p : Int) := by omega
        have k2 : (p : Int) < (fs.length : Int) := by omega
        clear hxc hft
        generalize fs[p] = f at *
        obtain ⟨fnm, fmk, fty⟩ := f
        dsimp only at *
        obtain ⟨n, rfl⟩ := Int.eq_ofNat_of_zero_le hft2.1
        have hn : n < ah.length := by omega
        have j1 : (0 : Int) ≤ (n : Int) := by omega
        have j2 : (n : Int) < (ah.length : Int) := by omega
        obtain ⟨nb, no, hne, _, _⟩ := Ha.out n hn
        cases hne
        have en := (Bf.out.cell (p := ⟨nb, no + n, none⟩) (Ha.out.at n hn).1).trans (Ha.out.at n hn).2
        rw [show ((n : Int)).toNat = n from rfl] at Hfz
        generalize ah.getD n 0 = az at *
        generalize textZ fnm = tz at *
        go_wp2_with fail
        have X0 := Lib.hid (Box.new wf 34 #[.string fnm, .int .i64 fmk, .int .i64 (n : Int)])
        have B0 := Lib.hid (Gf.out.alloc hsf (.cells #[.string fnm, .int .i64 fmk, .int .i64 (n : Int)] 34))
        have O0 := Lib.hid (Of.out.alloc (.cells #[.string fnm, .int .i64 fmk, .int .i64 (n : Int)] 34))
        have n0 := (World.cell?_alloc_lt wf (.cells #[.string fnm, .int .i64 fmk, .int .i64 (n : Int)] 34) ⟨nb, no + n, none⟩ (World.block_lt_of_cell? _ _ en)).trans en
        have m0 := (World.cell?_alloc_lt wf (.cells #[.string fnm, .int .i64 fmk, .int .i64 (n : Int)] 34) ⟨mb, mo + p, none⟩ (World.block_lt_of_cell? _ _ em)).trans em
        have s0 := (World.cell?_alloc_lt wf (.cells #[.string fnm, .int .i64 fmk, .int .i64 (n : Int)] 34) ⟨w.heap.size, 7, none⟩ (World.block_lt_of_cell? _ _ r7)).trans r7
        have hnb := (Ha.out.at n hn).1
        have hmb := (Hn.out.at p (by rw [Hnl.out, List.length_map]; exact hlp)).1
        have hq0 : wf.heap.size < (wf.alloc (.cells #[.string fnm, .int .i64 fmk, .int .i64 (n : Int)] 34)).heap.size := by simp
        clear Gf Of
        generalize wf.alloc (.cells #[.string fnm, .int .i64 fmk, .int .i64 (n : Int)] 34) = wq at *
        have hbq := Nat.le_trans hsf (Nat.le_of_lt hq0)
        have n2 := fun ob => (World.cell?_alloc_lt wq ob ⟨nb, no + n, none⟩ (World.block_lt_of_cell? _ _ n0)).trans n0
        have m2 := fun ob => (World.cell?_alloc_lt wq ob ⟨mb, mo + p, none⟩ (World.block_lt_of_cell? _ _ m0)).trans m0
        have s2 := fun ob => (World.cell?_alloc_lt wq ob ⟨w.heap.size, 7, none⟩ (World.block_lt_of_cell? _ _ s0)).trans s0
        go_region_held3 (fun w' => (w'.cell? ⟨wf.heap.size, 0, none⟩ = some (.string fnm) ∧ w'.cell? ⟨wf.heap.size, 1, none⟩ = some (.int .i64 fmk) ∧ w'.cell? ⟨wf.heap.size, 2, none⟩ = some (.int .i64 (n : Int))) ∧ w'.cell? ⟨nb, no + n, none⟩ = some (.int .i64 az) ∧ w'.cell? ⟨mb, mo + p, none⟩ = some (.int .i64 tz) ∧ w'.cell? ⟨w.heap.size, 7, none⟩ = some (.slice (some ⟨mb, mo, none⟩) fs.length cn))
          (first
            | exact ⟨box3 X4.out, n4, m4, s4⟩
            | exact ⟨box3 (X0.out.alloc _), n2 _, m2 _, s2 _⟩
            | exact ⟨box3 X0.out, n0, m0, s0⟩
            | go_keep)
          (first
            | (refine step_pushInts rfl _ _ rfl (w.heap.size + 1) _ _ ([F, bz] ++ fieldsZ ah (fs.take p)) rfl ((O0.out.drew1).alloc _) [tz, fmk, az] _ _ _ rfl rfl (Box.new' _ _ _ rfl) (by simp) (by first | omega | (simp; done) | (simp; omega)) (by first | omega | (simp; done) | (simp; omega)) ?_; intro v' w4 hown4 hg4 _; have X4 := Lib.hid (box_grown ((X0.out.drew).alloc _) hg4 (fun k hk => Nat.ne_of_lt (hvf k hk).2)); have n4 := (hg4.cell (a := ⟨nb, no + n, none⟩) (n2 _) (fun e => absurd (hvf _ e.symm).1 (show ¬ w.heap.size + 1 ≤ nb by omega))); have m4 := (hg4.cell (a := ⟨mb, mo + p, none⟩) (m2 _) (fun e => absurd (hvf _ e.symm).1 (show ¬ w.heap.size + 1 ≤ mb by omega))); have s4 := (hg4.cell (a := ⟨w.heap.size, 7, none⟩) (s2 _) (fun e => absurd (hvf _ e.symm).1 (show ¬ w.heap.size + 1 ≤ w.heap.size by omega))); have O4 := Lib.hid hown4; have B4 := Lib.hid (((below_drew1 B0.out).alloc hbq _).grown hg4 (by first | omega | (simp; done) | (simp; omega)) (fun k hk => (hvf k hk).1)); clear hown4 hg4)
            | fail)
        have O6 := Lib.hid (show OwnInts w4 (w.heap.size + 1) v' ([F, bz] ++ fieldsZ ah (fs.take (p + 1))) by rw [Hfn.out, Hfz.out, ← List.append_assoc]; exact O4.out)
        clear X0 X4 O0 O4 B0 Hfn Hfz n0 n2 n4 m0 m2 m4 s0 s2 s4
        go_wp2_with fail
        first
          | exact ⟨⟨p + 1, by congr 1, by omega, O6.out, B4.out⟩, by simp [intOf]; omega⟩
          | (refine ⟨?_, by simp [intOf]; omega⟩
             repeat apply Exists.intro
             exact ⟨⟨p + 1, rfl, by omega, O6.out, B4.out⟩, rfl⟩)
      · have Hpa := Lib.hid (show [F, bz] ++ fieldsZ ah (fs.take p) = [F, bz] ++ fieldsZ ah fs by rw [List.take_of_length_le (by omega)])
        have Of2 := Lib.hid (Hpa.out ▸ Of.out)
        have Hl20 := Lib.hid (Hpa.out ▸ hlen)
        obtain ⟨pa, pc, rfl, _, hpn⟩ := Of2.out.nums
        have Hpn := Lib.hid hpn
        clear hpn hlen Hpa Of
        go_wp2_with fail
        refine (iMixed pa pc ([F, bz] ++ fieldsZ ah fs) _ (by have := Hl20.out; omega) Hpn.out.ints).mono ?_
        rintro e w' ⟨rfl, rfl⟩
        go_wp2_with fail
        go_ret
        exact ⟨by rw [Hz.out]; rfl, Bf.out⟩
end Go.Proofs.Ytfkfhflkcdhhmaa
