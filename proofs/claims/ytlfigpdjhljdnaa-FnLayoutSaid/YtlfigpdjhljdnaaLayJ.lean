
/-
  What is proved: contracts of LayoutOf, the program's and the model's. No condition beside what each theorem states.
-/
import Derived.Test.YtlfigpdjhljdnaaLayI
import Derived.Test.YtlfigpdjhljdnaaDrawU
namespace Go.Proofs.Ytlfigpdjhljdnaa
open Go.ChangeShapes Go.WideShapes Go.ChangeAt Go.RowKit
set_option maxRecDepth 100000

theorem down_ok {l : List TypeD} (hne : near l) {x : Int} : ∀ f ∈ downZ l x, f.fName.size ≤ 10 ∧ 0 ≤ f.fType ∧ f.fType < (l.length : Int) := by
  intro f hf
  unfold downZ at hf
  obtain ⟨y, hy, hfy⟩ := List.mem_flatMap.1 hf
  obtain ⟨k, rfl, hkl, h5⟩ := kind5 (chain_kind (List.mem_reverse.1 hy))
  rw [fieldsZ_in hkl] at hfy
  exact ⟨hne.brief hkl f hfy, hne.parts k hkl f.fType (by unfold partsD; exact List.mem_append_right _ (List.mem_map_of_mem hfy))⟩

set_option maxHeartbeats 8000000 in
theorem iLayoutOf (a : Option Addr) (c : Nat) (l : List TypeD) (x : Int) (w : World) (hl : l.length ≤ 1048576) (hc : l.length ≤ c) (hc2 : c ≤ maxLen) (hm : ∀ t ∈ l, t.mod) (hr : Rows typeS Any w a l) :
    Calls Try.prog 10 #[.slice a l.length c, .int .i64 x] w fun e w' => ∃ v, e = .returned (.tuple #[v, .bool (layB l x)]) ∧ OwnP w' w.heap.size v (layA l x) ∧ Below w.heap.size w w' := by
  have Hr := Lib.hid hr
  have Hm := Lib.hid hm
  have hmm := @run_makeMap Try.prog
  clear hr hm
  go_enter Try.func10, Try.ntmps10
  go_wp2_with fail
  refine (iIsGoodRecord a c l x w hl hc hc2 Hm.out Hr.out).mono ?_
  rintro e w1 ⟨rfl, hb1⟩
  have B1 := Lib.hid hb1
  have R1 := Lib.hid (Hr.out.below hb1)
  clear hb1
  by_cases hg : recP l x
  · rw [recB_true hg]
    have Hg := Lib.hid hg
    clear hg
    have BM := (Below.refl w1.heap.size w1).alloc (Nat.le_refl _) (.map #[] 0)
    have BD := BM.alloc BM.size (.cells #[.slice a l.length c, .map (some w1.heap.size), .int .i64 0] 75)
    have hsz2 : (w1.alloc (.map #[] 0)).heap.size = w1.heap.size + 1 := by simp
    have L2 := Lib.hid (show LSt l a c w1.heap.size (w1.heap.size + 1) w1.heap.size 0 ((w1.alloc (.map #[] 0)).alloc (.cells #[.slice a l.length c, .map (some w1.heap.size), .int .i64 0] 75)) from
      ⟨Box.new' _ _ _ hsz2, ⟨[], ⟨List.nodup_nil, fun y hy => by cases hy⟩, (KMap.made (sizeS l) w1).below ((Below.refl _ _).alloc (Nat.le_refl _) _)⟩, ((R1.out.mono (Q' := fun b => b < w1.heap.size) fun b _ hl => hl).keep (fun b hb _ => BD.block b hb) BD.size), by omega, by omega, Nat.le_refl _⟩)
    have B2 := Lib.hid BD
    have R2 := Lib.hid (R1.out.below BD)
    clear BM BD
    go_wp2_with fail
    generalize (w1.alloc (.map #[] 0)).alloc (.cells #[.slice a l.length c, .map (some w1.heap.size), .int .i64 0] 75) = w2 at *
    refine (iFieldsDown a c l x w2 Hg.out.1 Hg.out.2 R2.out).mono ?_
    rintro e w3 ⟨v3, rfl, hown, hb3⟩
    have hdl := down_len Hg.out.1 x
    have Hdo := Lib.hid (down_ok Hg.out.1.1 (x := x))
    have Hlen := Lib.hid (gatL_len l (downZ l x) 0)
    have Hin := Lib.hid (fun h => lay_in (l := l) (x := x) ⟨Hg.out, h⟩)
    have Hout := Lib.hid (fun (h : ¬ allL l 0 (downZ l x)) => lay_out (l := l) (x := x) (fun k => h k.2))
    obtain ⟨a5, c5, rfl, _, _, _, hr5⟩ := hown.rows
    have L3 := Lib.hid (L2.out.below hb3)
    have B3 := Lib.hid (B2.out.trans (hb3.mono B2.out.size))
    have hgd := L2.out.box.lt
    have F3 := Lib.hid (hr5.mono (Q' := fun b => b ≠ w1.heap.size + 1 ∧ b ≠ w1.heap.size) fun b hb _ => ⟨by omega, by omega⟩)
    clear hown hb3 hr5 hsz2
    generalize downZ l x = fs at *
    go_wp2_with fail
    refine (iGatherP l Hg.out.1 a c w1.heap.size (w1.heap.size + 1) w1.heap.size fs a5 c5 w3 hdl (fun f hf => (Hdo.out f hf).1) (fun f hf => (Hdo.out f hf).2) L3.out F3.out).mono ?_
    rintro e w4 ⟨v4, rfl, hown4, ht4⟩
    have B4 := Lib.hid (B1.out.trans ((B3.out.trans (ht4.below (by omega) (Nat.le_refl _) B3.out.size)).mono B1.out.size))
    have O4 := Lib.hid (hown4.lower (Nat.le_trans B1.out.size B3.out.size))
    obtain ⟨a6, c6, rfl, _, _, _, _⟩ := hown4.rows
    clear hown4 ht4
    by_cases hall : allL l 0 fs
    · obtain ⟨v1, v2⟩ := Hin.out hall
      have hnl : ¬ (((gatL l 0 fs).length : Int) < (fs.length : Int)) := by have := Hlen.out.2.1 hall; omega
      have V1 := Lib.hid v1
      have V2 := Lib.hid v2
      clear v1 v2 Hin Hout Hlen hall
      generalize gatL l 0 fs = ps at *
      go_wp2_with fail
      go_ret2
      exact ⟨.slice a6 ps.length c6, by rw [V1.out]; rfl, by rw [V2.out]; exact O4.out, B4.out⟩
    · obtain ⟨v1, v2⟩ := Hout.out hall
      have hnl : ((gatL l 0 fs).length : Int) < (fs.length : Int) := by
        by_cases h : (gatL l 0 fs).length < fs.length
        · omega
        · exact absurd (Hlen.out.2.2 h) hall
      have V1 := Lib.hid v1
      have V2 := Lib.hid v2
      clear v1 v2 Hin Hout Hlen hall
      generalize gatL l 0 fs = ps at *
      go_wp2_with fail
      go_ret2
      exact ⟨.slice none 0 0, by rw [V1.out]; rfl, by rw [V2.out]; exact OwnP.nil, B4.out⟩
  · rw [recB_false hg]
    obtain ⟨v1, v2⟩ := lay_out (l := l) (x := x) (fun k => hg k.1)
    have V1 := Lib.hid v1
    have V2 := Lib.hid v2
    clear v1 v2 hg
    go_wp2_with fail
    go_ret2
    exact ⟨.slice none 0 0, by rw [V1.out]; rfl, by rw [V2.out]; exact OwnP.nil, B1.out⟩

set_option maxHeartbeats 16000000 in
theorem sl10Layout (a : Option Addr) (c : Nat) (l : List TypeD) (x : Int) (w : World) (hg : recP l x) (hr : Rows typeS Any w a l) :
    Calls Try.prog 39 #[.slice a l.length c, .int .i64 x] w fun e w' => ∃ v, e = .returned (.tuple #[v, .bool (layB l x)]) ∧ OwnP w' w.heap.size v (layA l x) ∧ Below w.heap.size w w' := by
  have Hr := Lib.hid hr
  have Hg := Lib.hid hg
  have hdl := down_len hg.1 x
  have Hdo := Lib.hid (down_ok hg.1.1 (x := x))
  have Hin := Lib.hid (fun h => lay_in (l := l) (x := x) ⟨hg, h⟩)
  have Hout := Lib.hid (fun (h : ¬ allL l 0 (downZ l x)) => lay_out (l := l) (x := x) (fun k => h k.2))
  have Hall := Lib.hid (sl10All a c l hg.1 _ x w (Nat.le_refl _) (.inr hg.2) hr)
  clear hr hg
  generalize downZ l x = fs at *
  go_enter Try.func39, Try.ntmps39
  go_wp2_with fail
  refine Hall.out.mono ?_
  rintro e w1 ⟨v1, rfl, hown, hb1⟩
  obtain ⟨a5, c5, rfl, _, _, _, hr5⟩ := hown.rows
  have F1 := Lib.hid hr5.any
  have B1 := Lib.hid hb1
  have R1 := Lib.hid (Hr.out.below hb1)
  clear hown hr5 hb1 Hall
  go_wp2_with fail
  go_loopw [16, 6, 7] (fun i y z wr => ∃ (k : Nat) (v : Value), i = .int .i64 k ∧ y = v ∧ z = .int .i64 (endL l 0 (fs.take k)) ∧ k ≤ fs.length ∧ OwnP wr w1.heap.size v (gatL l 0 (fs.take k)) ∧ allL l 0 (fs.take k) ∧ Below w1.heap.size w1 wr) (fun i _ _ _ => fs.length - (intOf i).toNat)
  case atStart => exact ⟨0, _, rfl, rfl, by rw [List.take_zero]; rfl, by omega, by rw [List.take_zero]; exact OwnP.nil, by rw [List.take_zero]; trivial, Below.refl _ _⟩
  case round =>
    obtain ⟨k, v, rfl, rfl, rfl, hk, hown, hal, hbel⟩ := hrel
    have Ho := Lib.hid hown
    have Hal := Lib.hid hal
    have Hbel := Lib.hid hbel
    have hs := hbel.size
    clear hown hal
    obtain ⟨wo, hwo⟩ : ∃ x, x = wr := ⟨_, rfl⟩
    subst hwo
    by_cases hlt : k < fs.length
    · obtain ⟨bf, of, cs, rfl, _, hbf1, hcf, hat⟩ := F1.out k hlt
      obtain rfl : cs = [.string fs[k].fName, .int .i64 fs[k].fMark, .int .i64 fs[k].fType] := hat
      have hn3 : fieldS.n = 3 := rfl
      have k0 := (hbel.cell (p := ⟨bf, of + k * 3 + 0, none⟩) hbf1).trans (hcf 0 (by decide))
      have k1 := (hbel.cell (p := ⟨bf, of + k * 3 + 1, none⟩) hbf1).trans (hcf 1 (by decide))
      have k2 := (hbel.cell (p := ⟨bf, of + k * 3 + 2, none⟩) hbf1).trans (hcf 2 (by decide))
      simp at k0 k1 k2
      have hdk := Hdo.out _ (List.getElem_mem hlt)
      have Hgat := Lib.hid (show gatL l 0 (fs.take (k + 1)) = gatL l 0 (fs.take k) ++ oneP l (endL l 0 (fs.take k)) fs[k] by rw [List.take_succ_eq_append_getElem hlt, gatL_app])
      have Hend := Lib.hid (show endL l 0 (fs.take (k + 1)) = nextE l (endL l 0 (fs.take k)) fs[k] by rw [List.take_succ_eq_append_getElem hlt, endL_app])
      have Hyes := Lib.hid (show okL l (endL l 0 (fs.take k)) fs[k] → allL l 0 (fs.take (k + 1)) from fun h => by rw [List.take_succ_eq_append_getElem hlt, allL_app]; exact ⟨Hal.out, h⟩)
      have Hbad := Lib.hid (show ¬ okL l (endL l 0 (fs.take k)) fs[k] → ¬ allL l 0 fs from fun h hA => by
        have h2 := allL_pre l (fs.take (k + 1)) (fs.drop (k + 1)) 0 (by rw [List.take_append_drop]; exact hA)
        rw [List.take_succ_eq_append_getElem hlt, allL_app] at h2
        exact h h2.2)
      have hgl := (gatL_len l (fs.take k) 0).1
      rw [List.length_take, Nat.min_eq_left (by omega)] at hgl
      have heb := endL_bd Hg.out.1.1 (fs.take k) 0 (by omega) (by omega)
      clear hcf hbel
      generalize fs[k] = f at *
      obtain ⟨nm, mk, ty⟩ := f
      dsimp only at hdk k0 k1 k2
      obtain ⟨_, hdk⟩ := hdk
      obtain ⟨tn, rfl⟩ := Int.eq_ofNat_of_zero_le hdk.1
      have htn : tn < l.length := by omega
      generalize endL l 0 (fs.take k) = e at *
      have BA := ((Below.refl wo.heap.size wo).alloc (Nat.le_refl _) (.cells #[.string nm, .int .i64 mk, .int .i64 (tn : Int)] 79))
      have X1 := Lib.hid (Box.new wo 79 #[.string nm, .int .i64 mk, .int .i64 (tn : Int)])
      have O1 := Lib.hid (Ho.out.below BA)
      have T1 := Lib.hid (Hbel.out.trans (BA.mono hs))
      have RR := Lib.hid (R1.out.below T1.out)
      have x2 : _ = some (Value.int .i64 (tn : Int)) := X1.out.cell 2
      obtain ⟨F, hF⟩ : ∃ F : FieldD, F = ⟨nm, mk, (tn : Int)⟩ := ⟨_, rfl⟩
      have hby : max 1 (min 8 (sizeS l (tn : Int))) = byZ l F := by rw [hF]; rfl
      have hbb := by_bd l F
      have hsb := sizeS_bounds Hg.out.1.1 (tn : Int)
      have hlb := line_bd heb.1 hbb.1
      have Hok := Lib.hid (show okL l e F ↔ (lineZ e (byZ l F) ≤ 1000000000 ∧ sizeS l (tn : Int) ≤ 1000000000) by rw [hF]; rfl)
      have Hnx := Lib.hid (show okL l e F → nextE l e F = lineZ e (byZ l F) + sizeS l (tn : Int) from fun h => by unfold nextE; rw [if_pos h, hF]; rfl)
      have Hone := Lib.hid (show okL l e F → oneP l e F = [⟨nm, lineZ e (byZ l F), sizeS l (tn : Int)⟩] from fun h => by unfold oneP; rw [if_pos h, hF]; rfl)
      rw [← hF] at Hgat Hend Hyes Hbad
      clear BA hF
      go_wp2_with fail
      generalize wo.alloc (.cells #[.string nm, .int .i64 mk, .int .i64 (tn : Int)] 79) = wp at *
      refine (sl3Size l Hg.out.1 _ c tn htn _ RR.out).mono ?_
      rintro r w2 ⟨rfl, hb2⟩
      have X2 := Lib.hid (X1.out.below hb2 X1.out.lt)
      have O2 := Lib.hid (O1.out.below hb2)
      have T2 := Lib.hid (T1.out.trans (hb2.mono T1.out.size))
      have x0 : _ = some (Value.string nm) := X2.out.cell 0
      clear hb2 x2
      generalize sizeS l (tn : Int) = s at *
      generalize byZ l F = b at *
      go_wp2_with fail
      refine (sl1Least 8 s w2).mono ?_
      rintro r w3 ⟨rfl, rfl⟩
      go_wp2_with fail
      refine (sl1Most 1 (min 8 s) w2).mono ?_
      rintro r w3 ⟨z, rfl, hw3, hz1, hz2, hz3⟩
      obtain rfl : z = b := by rw [← hby]; omega
      subst hw3
      clear hz1 hz2 hz3 hby
      go_wp2_with fail
      refine (sl10Up e z w3 heb.1 (by omega) hbb.1 hbb.2).mono ?_
      rintro r w4 ⟨rfl, rfl⟩
      generalize lineZ e z = az at *
      by_cases hs1 : s ≤ 1000000000
      · by_cases hz1 : az ≤ 1000000000
        · have Hy := Lib.hid (Hok.out.2 ⟨hz1, hs1⟩)
          have BB := ((Below.refl w3.heap.size w3).alloc (Nat.le_refl _) (.cells #[.string nm, .int .i64 az, .int .i64 s] 31))
          have O3 := Lib.hid (O2.out.below BB)
          have T3 := Lib.hid (T2.out.trans (BB.mono T2.out.size))
          have hs3 := T3.out.size
          clear BB
          go_wp2_with (at_builtin; refine wpList_pushP rfl (.tmp 35) (.tmp 41) rfl w1.heap.size _ _ (gatL l 0 (fs.take k)) rfl _ O3.out ⟨nm, az, s⟩ rfl (Box.new' _ _ _ (by simp)) (by omega) (by first | exact hs3 | (simp at *; omega)) ?_)
          intro v' w5 hown5 hg5 hlt5
          rw [← Hone.out Hy.out, ← Hgat.out] at hown5
          have O5 := Lib.hid hown5
          have T5 := Lib.hid (T3.out.grown hg5 hs3 (fun j hj => (hlt5 j hj).1))
          have E5 := Lib.hid (show az + s = endL l 0 (fs.take (k + 1)) by rw [Hend.out, Hnx.out Hy.out])
          clear hown5 hg5 hlt5
          go_wp2_with fail
          exact ⟨⟨k + 1, _, by congr 1, rfl, by rw [← E5.out], by omega, O5.out, Hyes.out Hy.out, T5.out⟩, by simp [intOf]; omega⟩
        · obtain ⟨u1, u2⟩ := Hout.out (Hbad.out (fun h => hz1 (Hok.out.1 h).1))
          have V1 := Lib.hid u1
          have V2 := Lib.hid u2
          clear u1 u2
          go_wp2_with fail
          go_ret2
          exact ⟨.slice none 0 0, by rw [V1.out]; rfl, by rw [V2.out]; exact OwnP.nil, B1.out.trans (T2.out.mono B1.out.size)⟩
      · obtain ⟨u1, u2⟩ := Hout.out (Hbad.out (fun h => hs1 (Hok.out.1 h).2))
        have V1 := Lib.hid u1
        have V2 := Lib.hid u2
        clear u1 u2
        go_wp2_with fail
        go_ret2
        exact ⟨.slice none 0 0, by rw [V1.out]; rfl, by rw [V2.out]; exact OwnP.nil, B1.out.trans (T2.out.mono B1.out.size)⟩
    · have hkf : k = fs.length := by omega
      subst hkf
      have hown2 := Ho.out
      have hal2 := Hal.out
      rw [List.take_length] at hown2 hal2
      obtain ⟨u1, u2⟩ := Hin.out hal2
      have V1 := Lib.hid u1
      have O2 := Lib.hid (show OwnP wo w.heap.size u6 (layA l x) by rw [u2]; exact hown2.lower B1.out.size)
      clear hown2 hal2 u1 u2 hbel
      go_wp2_with fail
      go_ret2
      exact ⟨_, by rw [V1.out]; rfl, O2.out, B1.out.trans (Hbel.out.mono B1.out.size)⟩

set_option maxHeartbeats 4000000 in
theorem sLayoutOf (a : Option Addr) (c : Nat) (l : List TypeD) (x : Int) (w : World) (hl : l.length ≤ 1048576) (hc : l.length ≤ c) (hc2 : c ≤ maxLen) (hm : ∀ t ∈ l, t.mod) (hr : Rows typeS Any w a l) :
    Calls Try.prog 11 #[.slice a l.length c, .int .i64 x] w fun e w' => ∃ v, e = .returned (.tuple #[v, .bool (layB l x)]) ∧ OwnP w' w.heap.size v (layA l x) ∧ Below w.heap.size w w' := by
  have Hr := Lib.hid hr
  have Hm := Lib.hid hm
  clear hr hm
  go_enter Try.func11, Try.ntmps11
  go_wp2_with fail
  refine (sl10Record a c l x w hl hc hc2 Hm.out Hr.out).mono ?_
  rintro e w1 ⟨rfl, hb1⟩
  have B1 := Lib.hid hb1
  have R1 := Lib.hid (Hr.out.below hb1)
  clear hb1
  by_cases hg : recP l x
  · rw [recB_true hg]
    have Hg := Lib.hid hg
    clear hg
    go_wp2_with fail
    refine (sl10Layout a c l x w1 Hg.out R1.out).mono ?_
    rintro e w2 ⟨v, rfl, hown, hb2⟩
    have O2 := Lib.hid (hown.lower B1.out.size)
    have B2 := Lib.hid (B1.out.trans (hb2.mono B1.out.size))
    clear hown hb2
    go_wp2_with fail
    go_ret2
    exact ⟨v, rfl, O2.out, B2.out⟩
  · rw [recB_false hg]
    obtain ⟨u1, u2⟩ := lay_out (l := l) (x := x) (fun k => hg k.1)
    have V1 := Lib.hid u1
    have V2 := Lib.hid u2
    clear u1 u2 hg
    go_wp2_with fail
    go_ret2
    exact ⟨.slice none 0 0, by rw [V1.out]; rfl, by rw [V2.out]; exact OwnP.nil, B1.out⟩
end Go.Proofs.Ytlfigpdjhljdnaa
