
/-
  What is proved: the contract of the program's valueOf. No condition beside what the theorem states.
-/
import Derived.Test.YteajdempddklgaaDoorEvD
namespace Go.Proofs.YteajdempddklgaaDoor
open Go.ChangeShapes Go.WideShapes Go.ChangeAt Go.RowKit
set_option maxRecDepth 100000

def resS : VS → Value
  | .run st => .tuple #[.int .i64 (st.getD 0 0), .nilIface]
  | .off c => .tuple #[.int .i64 0, faultV c]
def CellsA (w : World) (a : Option Addr) (xs : List ActD) : Prop := ∀ k (h : k < xs.length), ∃ g, a = some ⟨g, 0, none⟩ ∧ g < w.heap.size ∧ w.cell? ⟨g, k, none⟩ = some (xs[k]).val

set_option maxHeartbeats 8000000 in
theorem iValueOf (a2 : Option Addr) (c2 : Nat) (xs : List ActD) (a : Option Addr) (c : Nat) (ks : List KnownD) (w : World) (hcell : CellsA w a2 xs) (hbal : Bal xs 1) (hfine : ∀ k (h : k < xs.length), (xs[k]).fine) (hx40 : xs.length ≤ 40) (hks : knownsP ks) (hr : Rows knownS Any w a ks) :
    Calls Tryd.prog 47 #[.slice a2 xs.length c2, .slice a ks.length c] w fun e w' => e = .returned (resS (runV ks xs)) ∧ Below w.heap.size w w' := by
  have Hcell := Lib.hid hcell
  have Hbal := Lib.hid hbal
  have Hfine := Lib.hid hfine
  have Hks := Lib.hid hks
  have Hr := Lib.hid hr
  have hkl := hks.1
  clear hcell hbal hfine hks hr
  generalize hres : resS (runV ks xs) = R
  have Hres := Lib.hid hres
  clear hres
  go_enter Tryd.func47, Tryd.ntmps47
  go_wp2_with fail
  go_loopw [6, 14] (fun v i wr => ∃ (k : Nat) (st : List Int), i = .int .i64 k ∧ k ≤ xs.length ∧ runV ks (xs.take k) = .run st ∧ Bal (xs.take k) (st.length : Int) ∧ (∀ x ∈ st, wholeP x) ∧ st.length ≤ k ∧ OwnIs wr w.heap.size v st ∧ Below w.heap.size w wr) (fun _ i _ => xs.length - (intOf i).toNat)
  case atStart => exact ⟨0, [], rfl, by omega, rfl, .nil, fun x hx => absurd hx (by simp), Nat.le_refl _, OwnIs.nil, Below.refl _ _⟩
  case round =>
    obtain ⟨k, st, rfl, hk, hrun, hb, hwh, hsl, hown, hbel⟩ := hrel
    have Hrun := Lib.hid hrun
    have Hb := Lib.hid hb
    have Hwh := Lib.hid hwh
    have Hown := Lib.hid hown
    have hs1 := hbel.size
    clear hrun hb hwh hown
    by_cases hlt : k < xs.length
    · obtain ⟨g, rfl, hgl, hc0⟩ := Hcell.out k hlt
      have e0 := (hbel.cell (p := ⟨g, k, none⟩) hgl).trans hc0
      have Rk := Lib.hid (Hr.out.below hbel)
      have Hbel := Lib.hid hbel
      obtain ⟨hn1, hn2⟩ := Bal.need hlt Hbal.out Hb.out
      have Hn2 := Lib.hid hn2
      have hf := Hfine.out k hlt
      have Hgood := Lib.hid (fun v (hd : doA ks st xs[k] = .good v) => runV_good hlt Hrun.out hd)
      have Hbad := Lib.hid (fun c (hd : doA ks st xs[k] = .bad c) => congrArg resS (runV_bad hlt Hrun.out hd))
      have Hwv := Lib.hid (fun v (hd : doA ks st xs[k] = .good v) => doA_whole Hks.out.2 Hwh.out hf hd)
      clear hc0 hn2 hbel
      generalize xs[k] = z at *
      cases z
      case num x =>
        dsimp only [ActD.val] at e0
        have HG := Lib.hid (show runV ks (xs.take (k + 1)) = .run (st ++ [x]) by have h := Hgood.out _ rfl; rwa [show st.length - ActD.takesN _ = st.length from rfl, List.take_length] at h)
        have HW := Lib.hid (show ∀ y ∈ st ++ [x], wholeP y by have h := stack_whole st.length Hwh.out (Hwv.out _ rfl); rwa [List.take_length] at h)
        have HB := Lib.hid (show Bal (xs.take (k + 1)) ((st ++ [x]).length : Int) by have h := Hn2.out; rwa [show ((st.length : Int) + (1 - ActD.takes _)) = ((st ++ [x]).length : Int) from by simp only [ActD.takes, List.length_append, List.length_singleton]; omega] at h)
        clear Hgood Hbad Hwv Hn2 hf hn1
        rcases Hown.out.at with ⟨rfl, rfl⟩ | ⟨g2, cc, rfl, hcap, hmx, hB, hg2, cur, hbx, hcs, htk⟩
        · go_wp2_with (first | (go_at_call 203; refine (iTakes_num _ _).mono ?_; rintro e w2 ⟨rfl, hb2⟩) | (go_at_call 78; refine (iBrought_num x _ _ _).mono ?_; rintro e w3 ⟨rfl, hb3⟩; have B3 := Lib.hid (Hbel.out.trans ((hb2.trans (hb3.mono hb2.size)).mono hs1)); have O3 := Lib.hid (Hown.out.below (hb2.trans (hb3.mono hb2.size))); have hs3 := B3.out.size; clear hb2 hb3; dsimp only [resV, faultV]) | (at_builtin; refine wpList_pushI rfl _ _ rfl w.heap.size _ _ ([]) rfl _ (O3.out.alloc _) (x) rfl (Box.new' _ _ _ (by simp)) (by first | omega | (simp; done) | (simp; omega)) (by simp; omega) ?_; intro v' w4 hown4 hg4 hlt4))
          all_goals
            have B5 := Lib.hid ((B3.out.alloc hs3 _).grown hg4 (by simp; omega) (fun k hk => (hlt4 k hk).1))
            exact ⟨⟨k + 1, [] ++ [x], by congr 1, by omega, HG.out, HB.out, HW.out, by first | (simp; done) | (simp; omega), hown4, B5.out⟩, by simp [intOf]; omega⟩
        · go_wp2_with (first | (go_at_call 203; refine (iTakes_num _ _).mono ?_; rintro e w2 ⟨rfl, hb2⟩) | (go_at_call 78; refine (iBrought_num x _ _ _).mono ?_; rintro e w3 ⟨rfl, hb3⟩; have B3 := Lib.hid (Hbel.out.trans ((hb2.trans (hb3.mono hb2.size)).mono hs1)); have O3 := Lib.hid (Hown.out.below (hb2.trans (hb3.mono hb2.size))); have hs3 := B3.out.size; clear hb2 hb3; dsimp only [resV, faultV]) | (at_builtin; refine wpList_pushI rfl _ _ rfl w.heap.size _ _ (st) rfl _ (O3.out.alloc _) (x) rfl (Box.new' _ _ _ (by simp)) (by first | omega | (simp; done) | (simp; omega)) (by simp; omega) ?_; intro v' w4 hown4 hg4 hlt4))
          all_goals
            have B5 := Lib.hid ((B3.out.alloc hs3 _).grown hg4 (by simp; omega) (fun k hk => (hlt4 k hk).1))
            exact ⟨⟨k + 1, st ++ [x], by congr 1, by omega, HG.out, HB.out, HW.out, by first | (simp; done) | (simp; omega), hown4, B5.out⟩, by simp [intOf]; omega⟩
      case name mm nn =>
        dsimp only [ActD.val] at e0
        cases hr : nameR ks mm nn
        case good v =>
          have HG := Lib.hid (show runV ks (xs.take (k + 1)) = .run (st ++ [v]) by have h := Hgood.out _ hr; rwa [show st.length - ActD.takesN _ = st.length from rfl, List.take_length] at h)
          have HW := Lib.hid (show ∀ y ∈ st ++ [v], wholeP y by have h := stack_whole st.length Hwh.out (Hwv.out _ hr); rwa [List.take_length] at h)
          have HB := Lib.hid (show Bal (xs.take (k + 1)) ((st ++ [v]).length : Int) by have h := Hn2.out; rwa [show ((st.length : Int) + (1 - ActD.takes _)) = ((st ++ [v]).length : Int) from by simp only [ActD.takes, List.length_append, List.length_singleton]; omega] at h)
          have Hbr := Lib.hid (fun tk W hR => (hr ▸ iBrought_name mm nn tk a c ks W (by omega) hR : Calls Tryd.prog 78 #[.iface 125 (.agg #[.string mm, .string nn]), tk, .slice a ks.length c] W fun e w' => e = .returned (resV (.good v)) ∧ Below W.heap.size W w'))
          clear hr
          clear Hgood Hbad Hwv Hn2 hf hn1
          rcases Hown.out.at with ⟨rfl, rfl⟩ | ⟨g2, cc, rfl, hcap, hmx, hB, hg2, cur, hbx, hcs, htk⟩
          · go_wp2_with (first | (go_at_call 198; refine (iTakes_name _ _ _).mono ?_; rintro e w2 ⟨rfl, hb2⟩) | (go_at_call 78; refine (Hbr.out _ _ (Rk.out.below hb2)).mono ?_; rintro e w3 ⟨rfl, hb3⟩; have B3 := Lib.hid (Hbel.out.trans ((hb2.trans (hb3.mono hb2.size)).mono hs1)); have O3 := Lib.hid (Hown.out.below (hb2.trans (hb3.mono hb2.size))); have hs3 := B3.out.size; clear hb2 hb3; dsimp only [resV, faultV]) | (at_builtin; refine wpList_pushI rfl _ _ rfl w.heap.size _ _ ([]) rfl _ (O3.out.alloc _) (v) rfl (Box.new' _ _ _ (by simp)) (by first | omega | (simp; done) | (simp; omega)) (by simp; omega) ?_; intro v' w4 hown4 hg4 hlt4))
            all_goals
              have B5 := Lib.hid ((B3.out.alloc hs3 _).grown hg4 (by simp; omega) (fun k hk => (hlt4 k hk).1))
              exact ⟨⟨k + 1, [] ++ [v], by congr 1, by omega, HG.out, HB.out, HW.out, by first | (simp; done) | (simp; omega), hown4, B5.out⟩, by simp [intOf]; omega⟩
          · go_wp2_with (first | (go_at_call 198; refine (iTakes_name _ _ _).mono ?_; rintro e w2 ⟨rfl, hb2⟩) | (go_at_call 78; refine (Hbr.out _ _ (Rk.out.below hb2)).mono ?_; rintro e w3 ⟨rfl, hb3⟩; have B3 := Lib.hid (Hbel.out.trans ((hb2.trans (hb3.mono hb2.size)).mono hs1)); have O3 := Lib.hid (Hown.out.below (hb2.trans (hb3.mono hb2.size))); have hs3 := B3.out.size; clear hb2 hb3; dsimp only [resV, faultV]) | (at_builtin; refine wpList_pushI rfl _ _ rfl w.heap.size _ _ (st) rfl _ (O3.out.alloc _) (v) rfl (Box.new' _ _ _ (by simp)) (by first | omega | (simp; done) | (simp; omega)) (by simp; omega) ?_; intro v' w4 hown4 hg4 hlt4))
            all_goals
              have B5 := Lib.hid ((B3.out.alloc hs3 _).grown hg4 (by simp; omega) (fun k hk => (hlt4 k hk).1))
              exact ⟨⟨k + 1, st ++ [v], by congr 1, by omega, HG.out, HB.out, HW.out, by first | (simp; done) | (simp; omega), hown4, B5.out⟩, by simp [intOf]; omega⟩
        case bad v =>
          have HX := Lib.hid (Hbad.out _ hr)
          have Hbr := Lib.hid (fun tk W hR => (hr ▸ iBrought_name mm nn tk a c ks W (by omega) hR : Calls Tryd.prog 78 #[.iface 125 (.agg #[.string mm, .string nn]), tk, .slice a ks.length c] W fun e w' => e = .returned (resV (.bad v)) ∧ Below W.heap.size W w'))
          clear hr
          clear Hgood Hbad Hwv Hn2 hf hn1
          rcases Hown.out.at with ⟨rfl, rfl⟩ | ⟨g2, cc, rfl, hcap, hmx, hB, hg2, cur, hbx, hcs, htk⟩
          · go_wp2_with (first | (go_at_call 198; refine (iTakes_name _ _ _).mono ?_; rintro e w2 ⟨rfl, hb2⟩) | (go_at_call 78; refine (Hbr.out _ _ (Rk.out.below hb2)).mono ?_; rintro e w3 ⟨rfl, hb3⟩; have B3 := Lib.hid (Hbel.out.trans ((hb2.trans (hb3.mono hb2.size)).mono hs1)); have O3 := Lib.hid (Hown.out.below (hb2.trans (hb3.mono hb2.size))); have hs3 := B3.out.size; clear hb2 hb3; dsimp only [resV, faultV]))
            all_goals
              go_ret2
              exact ⟨by rw [← Hres.out, HX.out]; rfl, B3.out⟩
          · go_wp2_with (first | (go_at_call 198; refine (iTakes_name _ _ _).mono ?_; rintro e w2 ⟨rfl, hb2⟩) | (go_at_call 78; refine (Hbr.out _ _ (Rk.out.below hb2)).mono ?_; rintro e w3 ⟨rfl, hb3⟩; have B3 := Lib.hid (Hbel.out.trans ((hb2.trans (hb3.mono hb2.size)).mono hs1)); have O3 := Lib.hid (Hown.out.below (hb2.trans (hb3.mono hb2.size))); have hs3 := B3.out.size; clear hb2 hb3; dsimp only [resV, faultV]))
            all_goals
              go_ret2
              exact ⟨by rw [← Hres.out, HX.out]; rfl, B3.out⟩
      case pair j =>
        have hn1 : (2 : Int) ≤ (st.length : Int) := hn1
        obtain ⟨m, hm⟩ : ∃ m, st.length = m + 2 := ⟨st.length - 2, by omega⟩
        dsimp only [ActD.val] at e0
        rcases Hown.out.at with ⟨rfl, rfl⟩ | ⟨g2, cc, rfl, hcap, hmx, hB, hg2, cur, hbx, hcs, htk⟩
        · simp at hm
        · have c0 := (hbx.cell m).trans (take_cell htk (k := m) (by omega))
          have c1 := (hbx.cell (m + 1)).trans (take_cell htk (k := m + 1) (by omega))
          have wx := getD_whole Hwh.out m
          have wy := getD_whole Hwh.out (m + 1)
          have HO := Lib.hid (fun W (h : OwnIs W w.heap.size (.slice (some ⟨g2, 0, none⟩) (m + 2) cc) st) => (show OwnIs W w.heap.size (.slice (some ⟨g2, 0, none⟩) m cc) (st.take m) from OwnIs.shrink (hm ▸ h) (by omega)))
          have Hdo := Lib.hid (show doA ks st (.pair j) = pairR j (st.getD m 0) (st.getD (m + 1) 0) by show pairR j (st.getD (st.length - 2) 0) (st.getD (st.length - 1) 0) = _; rw [hm]; rfl)
          generalize st.getD m 0 = p at *
          generalize st.getD (m + 1) 0 = q at *
          cases hr : pairR j p q
          case good v =>
            have HG := Lib.hid (show runV ks (xs.take (k + 1)) = .run (st.take m ++ [v]) by have h := Hgood.out _ (Hdo.out.trans hr); rwa [show st.length - ActD.takesN _ = m from by rw [hm]; rfl] at h)
            have HW := Lib.hid (stack_whole m Hwh.out (Hwv.out _ (Hdo.out.trans hr)))
            have HB := Lib.hid (show Bal (xs.take (k + 1)) ((st.take m ++ [v]).length : Int) by have h := Hn2.out; rwa [show ((st.length : Int) + (1 - ActD.takes _)) = ((st.take m ++ [v]).length : Int) from by simp only [ActD.takes, List.length_append, List.length_singleton, List.length_take]; omega] at h)
            have Hbr := Lib.hid (fun g o cc kn W h0 h1 => (hr ▸ iBrought_pair j hf g o cc p q kn W wx wy h0 h1 : Calls Tryd.prog 78 #[.iface 187 (.agg #[.int .i64 (opK j), .string (opT j), .int .i64 (opS j)]), .slice (some ⟨g, o, none⟩) 2 cc, kn] W fun e w' => e = .returned (resV (.good v)) ∧ Below W.heap.size W w'))
            clear hr
            clear Hgood Hbad Hwv Hn2
            go_wp2_with (first | (go_at_call 205; refine (iTakes_pair _ _ _ _).mono ?_; rintro e w2 ⟨rfl, hb2⟩) | (go_at_call 78; refine (Hbr.out _ _ _ _ _ ((hb2.cell (p := ⟨g2, m, none⟩) hg2).trans c0) ((hb2.cell (p := ⟨g2, m + 1, none⟩) hg2).trans c1)).mono ?_; rintro e w3 ⟨rfl, hb3⟩; have B3 := Lib.hid (Hbel.out.trans ((hb2.trans (hb3.mono hb2.size)).mono hs1)); have O3 := Lib.hid (Hown.out.below (hb2.trans (hb3.mono hb2.size))); have hs3 := B3.out.size; clear hb2 hb3; dsimp only [resV, faultV]) | (at_builtin; refine wpList_pushI rfl _ _ rfl w.heap.size _ _ (st.take m) rfl _ ((HO.out _ (hm ▸ O3.out)).alloc _) (v) rfl (Box.new' _ _ _ (by simp)) (by first | omega | (simp; done) | (simp; omega)) (by simp; omega) ?_; intro v' w4 hown4 hg4 hlt4))
            all_goals
              have B5 := Lib.hid ((B3.out.alloc hs3 _).grown hg4 (by simp; omega) (fun k hk => (hlt4 k hk).1))
              exact ⟨⟨k + 1, st.take m ++ [v], by congr 1, by omega, HG.out, HB.out, HW.out, by first | (simp; done) | (simp; omega), hown4, B5.out⟩, by simp [intOf]; omega⟩
          case bad v =>
            have HX := Lib.hid (Hbad.out _ (Hdo.out.trans hr))
            have Hbr := Lib.hid (fun g o cc kn W h0 h1 => (hr ▸ iBrought_pair j hf g o cc p q kn W wx wy h0 h1 : Calls Tryd.prog 78 #[.iface 187 (.agg #[.int .i64 (opK j), .string (opT j), .int .i64 (opS j)]), .slice (some ⟨g, o, none⟩) 2 cc, kn] W fun e w' => e = .returned (resV (.bad v)) ∧ Below W.heap.size W w'))
            clear hr
            clear Hgood Hbad Hwv Hn2
            go_wp2_with (first | (go_at_call 205; refine (iTakes_pair _ _ _ _).mono ?_; rintro e w2 ⟨rfl, hb2⟩) | (go_at_call 78; refine (Hbr.out _ _ _ _ _ ((hb2.cell (p := ⟨g2, m, none⟩) hg2).trans c0) ((hb2.cell (p := ⟨g2, m + 1, none⟩) hg2).trans c1)).mono ?_; rintro e w3 ⟨rfl, hb3⟩; have B3 := Lib.hid (Hbel.out.trans ((hb2.trans (hb3.mono hb2.size)).mono hs1)); have O3 := Lib.hid (Hown.out.below (hb2.trans (hb3.mono hb2.size))); have hs3 := B3.out.size; clear hb2 hb3; dsimp only [resV, faultV]))
            all_goals
              go_ret2
              exact ⟨by rw [← Hres.out, HX.out]; rfl, B3.out⟩
      case minus =>
        have hn1 : (1 : Int) ≤ (st.length : Int) := hn1
        obtain ⟨m, hm⟩ : ∃ m, st.length = m + 1 := ⟨st.length - 1, by omega⟩
        dsimp only [ActD.val] at e0
        rcases Hown.out.at with ⟨rfl, rfl⟩ | ⟨g2, cc, rfl, hcap, hmx, hB, hg2, cur, hbx, hcs, htk⟩
        · simp at hm
        · have c0 := (hbx.cell m).trans (take_cell htk (k := m) (by omega))
          have wx := getD_whole Hwh.out m
          have HO := Lib.hid (fun W (h : OwnIs W w.heap.size (.slice (some ⟨g2, 0, none⟩) (m + 1) cc) st) => (show OwnIs W w.heap.size (.slice (some ⟨g2, 0, none⟩) m cc) (st.take m) from OwnIs.shrink (hm ▸ h) (by omega)))
          have Hdo := Lib.hid (show doA ks st .minus = .good (-(st.getD m 0)) by show VR.good (-(st.getD (st.length - 1) 0)) = _; rw [hm]; rfl)
          generalize st.getD m 0 = p at *
          have HG := Lib.hid (show runV ks (xs.take (k + 1)) = .run (st.take m ++ [(-p)]) by have h := Hgood.out _ Hdo.out; rwa [show st.length - ActD.takesN _ = m from by rw [hm]; rfl] at h)
          have HW := Lib.hid (stack_whole m Hwh.out (Hwv.out _ Hdo.out))
          have HB := Lib.hid (show Bal (xs.take (k + 1)) ((st.take m ++ [(-p)]).length : Int) by have h := Hn2.out; rwa [show ((st.length : Int) + (1 - ActD.takes _)) = ((st.take m ++ [(-p)]).length : Int) from by simp only [ActD.takes, List.length_append, List.length_singleton, List.length_take]; omega] at h)
          clear Hgood Hbad Hwv Hn2
          go_wp2_with (first | (go_at_call 204; refine (iTakes_minus _).mono ?_; rintro e w2 ⟨rfl, hb2⟩) | (go_at_call 78; refine (iBrought_minus _ _ _ p _ _ wx ((hb2.cell (p := ⟨g2, m, none⟩) hg2).trans c0)).mono ?_; rintro e w3 ⟨rfl, hb3⟩; have B3 := Lib.hid (Hbel.out.trans ((hb2.trans (hb3.mono hb2.size)).mono hs1)); have O3 := Lib.hid (Hown.out.below (hb2.trans (hb3.mono hb2.size))); have hs3 := B3.out.size; clear hb2 hb3; dsimp only [resV, faultV]) | (at_builtin; refine wpList_pushI rfl _ _ rfl w.heap.size _ _ (st.take m) rfl _ ((HO.out _ (hm ▸ O3.out)).alloc _) ((-p)) rfl (Box.new' _ _ _ (by simp)) (by first | omega | (simp; done) | (simp; omega)) (by simp; omega) ?_; intro v' w4 hown4 hg4 hlt4))
          all_goals
            have B5 := Lib.hid ((B3.out.alloc hs3 _).grown hg4 (by simp; omega) (fun k hk => (hlt4 k hk).1))
            exact ⟨⟨k + 1, st.take m ++ [(-p)], by congr 1, by omega, HG.out, HB.out, HW.out, by first | (simp; done) | (simp; omega), hown4, B5.out⟩, by simp [intOf]; omega⟩
    · obtain rfl : k = xs.length := by omega
      have hone : st.length = 1 := by
        have h := Hb.out
        rw [List.take_length] at h
        have := h.unique Hbal.out
        omega
      have HA := Lib.hid (show resS (runV ks xs) = .tuple #[.int .i64 (st.getD 0 0), .nilIface] by have h := Hrun.out; rw [List.take_length] at h; rw [h]; rfl)
      have Hbel := Lib.hid hbel
      rcases Hown.out.at with ⟨rfl, rfl⟩ | ⟨g2, cc, rfl, hcap, hmx, hB, hg2, cur, hbx, hcs, htk⟩
      · simp at hone
      · have c0 := (hbx.cell 0).trans (take_cell htk (k := 0) (by omega))
        clear hbel htk hcs hbx
        generalize st.getD 0 0 = p at *
        go_wp2_with fail
        go_ret2
        exact ⟨by rw [← Hres.out, HA.out]; rfl, Hbel.out⟩
end Go.Proofs.YteajdempddklgaaDoor
