
/-
  What is proved: contracts of AllFields, the program's and the model's: all fields of a record, those of the record farthest behind ahead of all. No condition beside what each theorem states.
-/
import Derived.Test.YtlfigpdjhljdnaaAllF
import Derived.Deep.RegionHeld3
namespace Go.Proofs.Ytlfigpdjhljdnaa
open Go.ChangeShapes Go.WideShapes Go.ChangeAt Go.RowKit
set_option maxRecDepth 100000

open Classical in
noncomputable def allA (l : List TypeD) (x : Int) : List FieldD := if recP l x then downZ l x else []
theorem allA_in {l : List TypeD} {x : Int} (h : recP l x) : allA l x = downZ l x := by unfold allA; rw [if_pos h]
theorem allA_out {l : List TypeD} {x : Int} (h : ¬ recP l x) : allA l x = [] := by unfold allA; rw [if_neg h]

set_option maxHeartbeats 16000000 in
theorem sl10All (a : Option Addr) (c : Nat) (l : List TypeD) (hg : good l) : ∀ (n : Nat) (x : Int) (w : World), (chain l x).length ≤ n → (x = -1 ∨ kindZ l x = 5) → Rows typeS Any w a l →
    Calls Try.prog 92 #[.slice a l.length c, .int .i64 x] w fun e w' => ∃ v, e = .returned v ∧ OwnF w' w.heap.size v (downZ l x) ∧ Below w.heap.size w w' := by
  have h24 := hg.1.most
  have Hg := Lib.hid hg
  clear hg
  intro n
  induction n with
  | zero =>
    intro x w hn hx _
    have hx1 : x = -1 := hx.resolve_right (fun h => by rw [chain_cons Hg.out h] at hn; simp at hn)
    subst hx1
    have Hv := Lib.hid (down_end (l := l) (x := -1) (by rw [kindZ_out (by omega)]; decide))
    clear hn hx
    go_enter Try.func92, Try.ntmps92
    go_wp2_with fail
    go_ret
    exact ⟨_, rfl, Hv.out ▸ OwnF.nil, Below.refl _ _⟩
  | succ n ih =>
    intro x w hn hx hr
    have Hr := Lib.hid hr
    have IH := Lib.hid ih
    clear ih hr
    rcases hx with rfl | h5
    · have Hv := Lib.hid (down_end (l := l) (x := -1) (by rw [kindZ_out (by omega)]; decide))
      clear hn
      go_enter Try.func92, Try.ntmps92
      go_wp2_with fail
      go_ret
      exact ⟨_, rfl, Hv.out ▸ OwnF.nil, Below.refl _ _⟩
    · have Hcons := Lib.hid (down_cons Hg.out h5)
      have hless := chain_less Hg.out h5
      obtain ⟨k, rfl, hk, h5'⟩ := kind5 h5
      have hbz := baseZ_in hk
      have Hnb := Lib.hid (Hg.out.1.base hk h5')
      have hft := Hg.out.1.six l[k] (List.getElem_mem hk)
      have hdl := down_len Hg.out (baseZ l (k : Int))
      rw [fieldsZ_in hk, hbz] at Hcons
      rw [hbz] at hless hdl
      obtain ⟨b, o, a3, c3, rfl, hb1, e0, e1, e2, e3, e4, e5, hrf, _⟩ := type_cells Hr.out hk (Below.refl _ _)
      have Hf := Lib.hid hrf
      have Hc := Lib.hid (show (chain l l[k].fBase).length ≤ n by omega)
      clear hrf hn hless
      generalize l[k] = t at *
      have IH2 := Lib.hid (fun W (hW : Rows typeS Any W (some ⟨b, o, none⟩) l) => IH.out t.fBase W Hc.out Hnb.out hW)
      have R0 := Lib.hid Hr.out.drew
      have F0 := Lib.hid Hf.out.drew
      have D0 := Lib.hid ((Below.refl w.heap.size w).drew)
      clear IH e0 e1 e4 e5
      go_enter Try.func92, Try.ntmps92
      go_wp2_with fail
      go_region_held3 (fun w' => w'.cell? ⟨b, o + k * 6 + 2, none⟩ = some (.int .i64 t.fBase) ∧ w'.cell? ⟨b, o + k * 6 + 3, none⟩ = some (.slice a3 t.fFields.length c3))
        (first | exact ⟨e2, e3⟩ | exact ⟨z2, z3⟩ | exact ⟨y2, y3⟩ | go_keep)
        (first
          | (go_at_call 92; refine (IH2.out _ R0.out).mono ?_; rintro e w1 ⟨v1, rfl, hown1, hb1'⟩; have O1 := Lib.hid (show OwnF w1 w.heap.size v1 (downZ l t.fBase) from hown1); have B1 := Lib.hid (D0.out.trans (hb1'.mono D0.out.size)); have F1 := Lib.hid (F0.out.below hb1'); have y2 := (hb1'.cell (p := ⟨b, o + k * 6 + 2, none⟩) hb1).trans e2; have y3 := (hb1'.cell (p := ⟨b, o + k * 6 + 3, none⟩) hb1).trans e3; clear hown1 hb1')
          | (refine step_pushFs rfl (.tmp 13) (.tmp 18) rfl w.heap.size _ v1 (downZ l t.fBase) rfl O1.out t.fFields _ _ rfl F1.out (by omega) B1.out.size ?_; intro v2 w2 hown2 hg2 hlt2; have O2 := Lib.hid hown2; have B2 := Lib.hid (B1.out.grown hg2 B1.out.size (fun k hk => (hlt2 k hk).1)); have z2 := hg2.cell y2 (fun e => by have h := (hlt2 _ e.symm).1; have h2 : w.heap.size ≤ b := h; omega); have z3 := hg2.cell y3 (fun e => by have h := (hlt2 _ e.symm).1; have h2 : w.heap.size ≤ b := h; omega); clear hown2 hg2 hlt2)
          | fail)
      go_wp2_with fail
      go_ret
      exact ⟨_, rfl, Hcons.out ▸ O2.out, B2.out⟩

end Go.Proofs.Ytlfigpdjhljdnaa
