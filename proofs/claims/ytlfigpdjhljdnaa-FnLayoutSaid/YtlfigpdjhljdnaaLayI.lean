
/-
  What is proved: contracts of the program's laying.place, gathered on fields and LayoutOf. No condition beside what each theorem states.
-/
import Derived.Test.YtlfigpdjhljdnaaLayP
import Derived.Deep.RegionHeld3
namespace Go.Proofs.Ytlfigpdjhljdnaa
open Go.ChangeShapes Go.WideShapes Go.ChangeAt Go.RowKit
set_option maxRecDepth 100000

theorem results_plc {fn : Func} {p u : Tmp} (h : fn.results = #[.cell p 31, .tmp u]) (tmps : Array Value) (w : World) (g : Nat) (cs : Array Value) (hp : tmps.getD p undef = .pointer (some ⟨g, 0, none⟩)) (hb : Box w g 31 cs) (hc : cs.size = 3) :
    (results fn tmps).run Try.prog w = .ok (.tuple #[.agg cs, tmps.getD u undef]) w := by
  have hl : (loadVar 31 ⟨g, 0, none⟩).run Try.prog w = .ok (.agg cs) w := run_loadVar_row w g _ _ cs (0, 0) _ hb Try.underlying31 rfl (by rw [hc]; kernel_rfl)
  rw [results_cell_tmp h, hp]
  simp [asAddr, hl]

/-- Of what was there only two blocks have turned. -/
structure Two (g h : Nat) (w w' : World) : Prop where
  os : w'.os = w.os
  tape : w'.tape = w.tape
  output : w'.output = w.output
  size : w.heap.size ≤ w'.heap.size
  block : ∀ b, b < w.heap.size → b ≠ g → b ≠ h → w'.heap[b]? = w.heap[b]?
section
variable {g h : Nat} {w w' w'' : World}
theorem Two.refl : Two g h w w := ⟨rfl, rfl, rfl, Nat.le_refl _, fun _ _ _ _ => rfl⟩
theorem Two.trans (k : Two g h w w') (k' : Two g h w' w'') : Two g h w w'' :=
  ⟨k'.os.trans k.os, k'.tape.trans k.tape, k'.output.trans k.output, Nat.le_trans k.size k'.size, fun b hb h1 h2 => (k'.block b (Nat.lt_of_lt_of_le hb k.size) h1 h2).trans (k.block b hb h1 h2)⟩
theorem Two.one (k : Only g w w') : Two g h w w' := ⟨k.os, k.tape, k.output, k.size, fun b hb h1 _ => k.block b hb (fun e => h1 (by injection e))⟩
theorem Two.two (k : Only h w w') : Two g h w w' := ⟨k.os, k.tape, k.output, k.size, fun b hb _ h2 => k.block b hb (fun e => h2 (by injection e))⟩
theorem Two.none (k : Below w.heap.size w w') : Two g h w w' := ⟨k.os, k.tape, k.output, k.size, fun b hb _ _ => k.block b hb⟩
theorem Two.below {B : Nat} (k : Two g h w w') (h1 : B ≤ g) (h2 : B ≤ h) (h3 : B ≤ w.heap.size) : Below B w w' := ⟨k.os, k.tape, k.output, k.size, fun b hb => k.block b (by omega) (by omega) (by omega)⟩
end

/-- What lays fields, in memory: its types in blocks below S, the sizes known, where the last one ends. -/
structure LSt (l : List TypeD) (a : Option Addr) (c S gd gm : Nat) (e : Int) (w : World) : Prop where
  box : Box w gd 75 #[.slice a l.length c, .map (some gm), .int .i64 e]
  known : ∃ K, Known l K ∧ KMap (sizeS l) w gm K
  rows : Rows typeS (fun b => b < S) w a l
  ne : gd ≠ gm
  hd : S ≤ gd
  hm : S ≤ gm
theorem LSt.gm {l : List TypeD} {a : Option Addr} {c S gd gm : Nat} {e : Int} {w : World} (h : LSt l a c S gd gm e w) : gm < w.heap.size := by obtain ⟨K, _, h2⟩ := h.known; exact h2.lt
theorem LSt.keep {l : List TypeD} {a : Option Addr} {c S gd gm : Nat} {e : Int} {w w' : World} (h : LSt l a c S gd gm e w) (hb : ∀ b, b < w.heap.size → (b < S ∨ b = gd ∨ b = gm) → w'.heap[b]? = w.heap[b]?) (hs : w.heap.size ≤ w'.heap.size) : LSt l a c S gd gm e w' :=
  ⟨(hb gd h.box.lt (.inr (.inl rfl))).trans h.box, by obtain ⟨K, h1, h2⟩ := h.known; exact ⟨K, h1, h2.block (hb gm h2.lt (.inr (.inr rfl)))⟩, h.rows.keep (fun b hq hl => hb b hl (.inl hq)) hs, h.ne, h.hd, h.hm⟩
theorem LSt.below {l : List TypeD} {a : Option Addr} {c S gd gm : Nat} {e : Int} {w w' : World} (h : LSt l a c S gd gm e w) (hb : Below w.heap.size w w') : LSt l a c S gd gm e w' := h.keep (fun b hl _ => hb.block b hl) hb.size
theorem LSt.drew {l : List TypeD} {a : Option Addr} {c S gd gm : Nat} {e : Int} {w : World} (h : LSt l a c S gd gm e w) : LSt l a c S gd gm e w.drew := h.keep (fun _ _ _ => rfl) (Nat.le_refl _)
theorem LSt.other {l : List TypeD} {a : Option Addr} {c S gd gm q : Nat} {e : Int} {w w' : World} (h : LSt l a c S gd gm e w) (ho : Only q w w') (h1 : S ≤ q) (h2 : q ≠ gd) (h3 : q ≠ gm) : LSt l a c S gd gm e w' :=
  h.keep (fun b hl hb => ho.block b hl (fun k => by injection k with k; omega)) ho.size
theorem LSt.put {l : List TypeD} {a : Option Addr} {c S gd gm : Nat} {e e' : Int} {w : World} (h : LSt l a c S gd gm e w) : LSt l a c S gd gm e' (w.setCell ⟨gd, 2, none⟩ (.int .i64 e')) :=
  ⟨h.box.set 2 _, by
    obtain ⟨K, h1, h2⟩ := h.known
    exact ⟨K, h1, h2.block (Below.heap_setCell w ⟨gd, 2, none⟩ _ gm (fun q => h.ne q.symm))⟩, h.rows.keep (fun b hq _ => Below.heap_setCell w ⟨gd, 2, none⟩ _ b (fun q => by have q : b = gd := q; have := h.hd; omega)) (by simp [World.setCell]), h.ne, h.hd, h.hm⟩

def PostPl (l : List TypeD) (a : Option Addr) (c S gd gm : Nat) (e : Int) (f : FieldD) (w : World) (r : Ending) (w' : World) : Prop :=
  ((okL l e f ∧ r = .returned (.tuple #[.agg #[.string f.fName, .int .i64 (atZ l e f), .int .i64 (sizeS l f.fType)], .bool true])) ∨ (¬ okL l e f ∧ r = .returned (.tuple #[.agg #[.string ByteArray.empty, .int .i64 0, .int .i64 0], .bool false]))) ∧ LSt l a c S gd gm (nextE l e f) w' ∧ Two gd gm w w'

set_option maxHeartbeats 16000000 in
theorem iPlace (l : List TypeD) (hg : good l) (a : Option Addr) (c S gd gm : Nat) (e : Int) (n : ByteArray) (mk : Int) (ty : Nat) (w : World) (h0 : 0 ≤ e) (h1 : e ≤ 2000000000) (hty : ty < l.length) (hn : n.size ≤ 1048576) (hst : LSt l a c S gd gm e w) :
    Calls Try.prog 37 #[.pointer (some ⟨gd, 0, none⟩), .agg #[.string n, .int .i64 mk, .int .i64 (ty : Int)]] w (PostPl l a c S gd gm e ⟨n, mk, ty⟩ w) := by
  have H0 := Lib.hid hst
  have Hg := Lib.hid hg
  have hsb := sizeS_bounds hg.1 (ty : Int)
  have B0 := Lib.hid (((Below.refl w.heap.size w).alloc (Nat.le_refl _) (.cells #[.string n, .int .i64 mk, .int .i64 (ty : Int)] 79)).alloc (by simp) (.cells #[.string ⟨#[]⟩, .int .i64 0, .int .i64 0] 31))
  have X0 := Lib.hid ((Box.new w 79 #[.string n, .int .i64 mk, .int .i64 (ty : Int)]).alloc (.cells #[.string ⟨#[]⟩, .int .i64 0, .int .i64 0] 31))
  have Y0 := Lib.hid (Box.new' (w.alloc (.cells #[.string n, .int .i64 mk, .int .i64 (ty : Int)] 79)) 31 #[.string ⟨#[]⟩, .int .i64 0, .int .i64 0] (g := w.heap.size + 1) (by simp))
  have L0 := Lib.hid (hst.below B0.out)
  have hgd := hst.box.lt
  have hgm := hst.gm
  have hne := hst.ne
  have hSd := hst.hd
  clear hg hst
  go_enter Try.func37, Try.ntmps37
  go_wp2_with fail
  generalize (w.alloc (.cells #[.string n, .int .i64 mk, .int .i64 (ty : Int)] 79)).alloc (.cells #[.string ⟨#[]⟩, .int .i64 0, .int .i64 0] 31) = wq at *
  have x2 : _ = some (Value.int .i64 (ty : Int)) := X0.out.cell 2
  have l0 : _ = some (Value.slice a l.length c) := L0.out.box.cell 0
  have l1 : _ = some (Value.map (some gm)) := L0.out.box.cell 1
  have Hsz := Lib.hid (show ∀ W : World, LSt l a c S gd gm e W → Calls Try.prog 60 #[.slice a l.length c, .int .i64 (ty : Int), .map (some gm)] W fun r w' => r = .returned (.int .i64 (sizeS l (ty : Int))) ∧ LSt l a c S gd gm e w' ∧ Only gm W w' from fun W hW => by
    obtain ⟨K, k1, k2⟩ := hW.known
    refine (iSizeWithin l Hg.out a c gm l.length ty K W (rk_all Hg.out hty) k1 k2 (hW.rows.mono fun b hb _ => by have := hW.hm; omega)).mono ?_
    rintro r w' ⟨rfl, ⟨K', _, _, _, k3, k4⟩, ho⟩
    exact ⟨rfl, ⟨hW.box.only ho hW.ne, ⟨K', k3, k4⟩, hW.rows.keep (fun b hb hl => ho.block b hl (fun q => by injection q with q; have := hW.hm; omega)) ho.size, hW.ne, hW.hd, hW.hm⟩, ho⟩)
  have D0 := Lib.hid L0.out.drew
  go_region_held3 (fun w' => w'.cell? ⟨w.heap.size, 2, none⟩ = some (.int .i64 (ty : Int)) ∧ w'.cell? ⟨gd, 0, none⟩ = some (.slice a l.length c) ∧ w'.cell? ⟨gd, 1, none⟩ = some (.map (some gm)))
    (first | exact ⟨x2, l0, l1⟩ | exact ⟨y2, m0, m1⟩ | go_keep)
    (first
      | (go_at_call 60; refine (Hsz.out _ D0.out).mono ?_; rintro r w1 ⟨rfl, hL1, ho1⟩; have L1 := Lib.hid hL1; have O1 := Lib.hid ho1; have y2 : w1.cell? ⟨w.heap.size, 2, none⟩ = some (.int .i64 (ty : Int)) := (X0.out.drew.only ho1 (by omega)).cell 2; have m0 : w1.cell? ⟨gd, 0, none⟩ = some (.slice a l.length c) := hL1.box.cell 0; have m1 : w1.cell? ⟨gd, 1, none⟩ = some (.map (some gm)) := hL1.box.cell 1; clear hL1 ho1)
      | fail)
  have X1 := Lib.hid (X0.out.drew.only O1.out (by omega))
  have Y1 := Lib.hid (Y0.out.drew.only O1.out (by omega))
  have m2 : _ = some (Value.int .i64 e) := L1.out.box.cell 2
  clear x2 l0 l1 y2 m0 m1
  have w01 : Hid (Two gd gm w w1) := Lib.hid ((Two.none B0.out).trans (Two.trans (Two.none (Below.refl _ _).drew) (Two.two O1.out)))
  have f2 := L1.out.box.free 2
  obtain ⟨F, hF⟩ : ∃ F : FieldD, F = ⟨n, mk, (ty : Int)⟩ := ⟨_, rfl⟩
  have hby : max 1 (min (sizeS l (ty : Int)) 8) = byZ l F := by rw [hF]; unfold byZ; rw [Int.min_comm]
  have hbb := by_bd l F
  have hsF : sizeS l F.fType = sizeS l (ty : Int) := by rw [hF]
  have hnF : F.fName = n := by rw [hF]
  have Hok := Lib.hid (show okL l e F ↔ (lineZ e (byZ l F) ≤ 1000000000 ∧ sizeS l (ty : Int) ≤ 1000000000) by unfold okL atZ; rw [hsF])
  have Hat := Lib.hid (show atZ l e F = lineZ e (byZ l F) from rfl)
  have Hnx := Lib.hid (show nextE l e F = if okL l e F then lineZ e (byZ l F) + sizeS l (ty : Int) else e by unfold nextE atZ; rw [hsF])
  have hlb := line_bd h0 hbb.1
  have Hfar := Lib.hid (fun (h : 1000000000 < e) => at_far (l := l) (f := F) h0 h)
  have HsF := Lib.hid hsF
  have HnF := Lib.hid hnF
  have HF := Lib.hid hF
  clear hsF hnF hF
  go_wp2_with fail
  generalize sizeS l (ty : Int) = s at *
  generalize byZ l F = b at *
  clear hby Hsz
  refine (iLineUp e b w1).mono ?_
  rintro r w2 ⟨rfl, rfl⟩
  have ga := L1.out.gm
  have y0 : _ = some (Value.string ⟨#[]⟩) := Y1.out.cell 0
  have y1 : _ = some (Value.int .i64 0) := Y1.out.cell 1
  have y2 : _ = some (Value.int .i64 0) := Y1.out.cell 2
  have q0 := Y1.out.free 0
  have q1 := Y1.out.free 1
  have q2 := Y1.out.free 2
  have Hbad := Lib.hid (show ¬ okL l e F → ∀ W : World, W = ((w1.setCell ⟨w.heap.size + 1, 0, none⟩ (.string ByteArray.empty)).setCell ⟨w.heap.size + 1, 1, none⟩ (.int .i64 0)).setCell ⟨w.heap.size + 1, 2, none⟩ (.int .i64 0) → LSt l a c S gd gm (nextE l e F) W ∧ Two gd gm w W ∧ Box W (w.heap.size + 1) 31 #[.string ByteArray.empty, .int .i64 0, .int .i64 0] from fun hno W hW => by
    have ho : Only (w.heap.size + 1) w1 W := by rw [hW]; exact (((Only.refl _ w1).set 0 _).set 1 _).set 2 _
    have hs := w01.out.size
    refine ⟨?_, ?_, ?_⟩
    · rw [Hnx.out, if_neg hno]
      exact L1.out.other ho (by omega) (by omega) (by omega)
    · exact ⟨ho.os.trans w01.out.os, ho.tape.trans w01.out.tape, ho.output.trans w01.out.output, Nat.le_trans w01.out.size ho.size, fun k hk k1 k2 => (ho.block k (Nat.lt_of_lt_of_le hk hs) (fun q => by injection q with q; omega)).trans (w01.out.block k hk k1 k2)⟩
    · rw [hW]
      exact ((Y1.out.set 0 (.string ByteArray.empty)).set 1 (.int .i64 0)).set 2 (.int .i64 0))
  by_cases he : e ≤ 1000000000
  · obtain ⟨la, lb⟩ := line_in (n := e) (b := b) ⟨⟨h0, he⟩, hbb⟩
    rw [la, lb]
    clear la lb
    generalize lineZ e b = z at *
    by_cases hz : z ≤ 1000000000
    · by_cases hs : s ≤ 1000000000
      · have Hy := Lib.hid (Hok.out.2 ⟨hz, hs⟩)
        have X2 := Lib.hid (X1.out.only ((Only.refl gd w1).set 2 (.int .i64 (z + s))) (by omega))
        have Y2 := Lib.hid (Y1.out.only ((Only.refl gd w1).set 2 (.int .i64 (z + s))) (by omega))
        have L2 := Lib.hid (L1.out.put (e' := z + s))
        have W2 := Lib.hid (w01.out.trans (Two.one ((Only.refl gd w1).set 2 (.int .i64 (z + s)))))
        have x0 : _ = some (Value.string n) := X2.out.cell 0
        clear Hbad y0 y1 y2 q0 q1 q2
        go_wp2_with fail
        generalize w1.setCell ⟨gd, 2, none⟩ (.int .i64 (z + s)) = w2 at *
        refine (iStrClone n w2 hn).mono ?_
        rintro r w3 ⟨rfl, hb3⟩
        have Y3 := Lib.hid (Y2.out.below hb3 Y2.out.lt)
        have L3 := Lib.hid (L2.out.below hb3)
        have W3 := Lib.hid (W2.out.trans (Two.none hb3))
        clear hb3 x0
        have y0 : _ = some (Value.string ⟨#[]⟩) := Y3.out.cell 0
        have y1 : _ = some (Value.int .i64 0) := Y3.out.cell 1
        have y2 : _ = some (Value.int .i64 0) := Y3.out.cell 2
        have q0 := Y3.out.free 0
        have q1 := Y3.out.free 1
        have q2 := Y3.out.free 2
        go_wp2_with fail
        have ho : Only (w.heap.size + 1) w3 (((w3.setCell ⟨w.heap.size + 1, 0, none⟩ (.string n)).setCell ⟨w.heap.size + 1, 1, none⟩ (.int .i64 z)).setCell ⟨w.heap.size + 1, 2, none⟩ (.int .i64 s)) := (((Only.refl _ w3).set 0 _).set 1 _).set 2 _
        have hbx := ((Y3.out.set 0 (.string n)).set 1 (.int .i64 z)).set 2 (.int .i64 s)
        refine bodyPost_ret (results_plc rfl _ _ (w.heap.size + 1) #[.string n, .int .i64 z, .int .i64 s] rfl hbx rfl) rfl ?_
        have hs01 := W3.out.size
        rw [← HF.out]
        refine ⟨.inl ⟨Hy.out, by rw [HsF.out, Hat.out, HnF.out]; rfl⟩, ?_, ?_⟩
        · rw [Hnx.out, if_pos Hy.out]
          exact L3.out.other ho (by omega) (by omega) (by omega)
        · exact ⟨ho.os.trans W3.out.os, ho.tape.trans W3.out.tape, ho.output.trans W3.out.output, Nat.le_trans W3.out.size ho.size, fun k hk k1 k2 => (ho.block k (Nat.lt_of_lt_of_le hk hs01) (fun q => by injection q with q; omega)).trans (W3.out.block k hk k1 k2)⟩
      · have Hno := Lib.hid (show ¬ okL l e F from fun h => hs (Hok.out.1 h).2)
        go_wp2_with fail
        obtain ⟨c1, c2, c3⟩ := Hbad.out Hno.out _ rfl
        refine bodyPost_ret (results_plc rfl _ _ (w.heap.size + 1) #[.string ByteArray.empty, .int .i64 0, .int .i64 0] rfl c3 rfl) rfl ?_
        rw [← HF.out]
        exact ⟨.inr ⟨Hno.out, rfl⟩, c1, c2⟩
    · have Hno := Lib.hid (show ¬ okL l e F from fun h => hz (Hok.out.1 h).1)
      go_wp2_with fail
      obtain ⟨c1, c2, c3⟩ := Hbad.out Hno.out _ rfl
      refine bodyPost_ret (results_plc rfl _ _ (w.heap.size + 1) #[.string ByteArray.empty, .int .i64 0, .int .i64 0] rfl c3 rfl) rfl ?_
      rw [← HF.out]
      exact ⟨.inr ⟨Hno.out, rfl⟩, c1, c2⟩
  · obtain ⟨la, lb⟩ := line_out (n := e) (b := b) (fun h => he h.1.2)
    rw [la, lb]
    clear la lb
    have Hno := Lib.hid (Hfar.out (by omega))
    go_wp2_with fail
    obtain ⟨c1, c2, c3⟩ := Hbad.out Hno.out _ rfl
    refine bodyPost_ret (results_plc rfl _ _ (w.heap.size + 1) #[.string ByteArray.empty, .int .i64 0, .int .i64 0] rfl c3 rfl) rfl ?_
    rw [← HF.out]
    exact ⟨.inr ⟨Hno.out, rfl⟩, c1, c2⟩

theorem OwnP.two {w w' : World} {B g h : Nat} {v : Value} {l : List PlaceD} (k : OwnP w B v l) (hk : Two g h w w') (h1 : g < B) (h2 : h < B) : OwnP w' B v l := k.keep fun b hb hl => hk.block b hl (by omega) (by omega)

theorem Two.grown {w w3 w4 : World} {g h : Nat} {row : Option Nat} (k : Two g h w w3) (hg : w3.grownBy w4 row) (hrow : ∀ j, row = some j → w.heap.size ≤ j) : Two g h w w4 :=
  ⟨hg.os.trans k.os, hg.tape.trans k.tape, hg.output.trans k.output, Nat.le_trans k.size hg.size, fun b hb h1 h2 => (hg.block b (Nat.lt_of_lt_of_le hb k.size) (fun e => by have := hrow b e.symm; omega)).trans (k.block b hb h1 h2)⟩
theorem LSt.grown {l : List TypeD} {a : Option Addr} {c S gd gm B : Nat} {e : Int} {w w' : World} {row : Option Nat} (h : LSt l a c S gd gm e w) (hg : w.grownBy w' row) (hrow : ∀ j, row = some j → B ≤ j) (h1 : gd < B) (h2 : gm < B) : LSt l a c S gd gm e w' :=
  h.keep (fun b hl hb => hg.block b hl (fun q => by have := hrow b q.symm; have := h.hd; omega)) hg.size

set_option maxHeartbeats 16000000 in
theorem iGatherP (l : List TypeD) (hg : good l) (a : Option Addr) (c S gd gm : Nat) (fs : List FieldD) (a5 : Option Addr) (c5 : Nat) (w : World) (hfs : fs.length ≤ 144) (hn : ∀ f ∈ fs, f.fName.size ≤ 10) (ht : ∀ f ∈ fs, 0 ≤ f.fType ∧ f.fType < (l.length : Int)) (hst : LSt l a c S gd gm 0 w) (hr : Rows fieldS (fun b => b ≠ gd ∧ b ≠ gm) w a5 fs) :
    Calls Try.prog 36 #[.slice a5 fs.length c5, .func (.func 37) #[.pointer (some ⟨gd, 0, none⟩)] #[]] w fun e w' => ∃ v, e = .returned v ∧ OwnP w' w.heap.size v (gatL l 0 fs) ∧ Two gd gm w w' := by
  have Hg := Lib.hid hg
  have Hn := Lib.hid hn
  have Ht := Lib.hid ht
  have L0 := Lib.hid hst
  have Hr := Lib.hid hr
  have hgd := hst.box.lt
  have hgm := hst.gm
  clear hg hn ht hst hr
  go_enter Try.func36, Try.ntmps36
  go_wp2_with fail
  go_loopw [12, 5] (fun i x wr => ∃ (k : Nat) (v : Value), i = .int .i64 k ∧ x = v ∧ k ≤ fs.length ∧ OwnP wr w.heap.size v (gatL l 0 (fs.take k)) ∧ LSt l a c S gd gm (endL l 0 (fs.take k)) wr ∧ Two gd gm w wr) (fun i _ _ => fs.length - (intOf i).toNat)
  case atStart => exact ⟨0, _, rfl, rfl, by omega, by rw [List.take_zero]; exact OwnP.nil, by rw [List.take_zero]; exact L0.out, Two.refl⟩
  case round =>
    obtain ⟨k, v, rfl, rfl, hk, hown, hls, htw⟩ := hrel
    have Ho := Lib.hid hown
    have Hl := Lib.hid hls
    have Htw := Lib.hid htw
    have hs := htw.size
    clear hown hls
    obtain ⟨wo, hwo⟩ : ∃ x, x = wr := ⟨_, rfl⟩
    subst hwo
    by_cases hlt : k < fs.length
    · obtain ⟨bf, of, cs, rfl, hq, hbf1, hcf, hat⟩ := Hr.out k hlt
      obtain rfl : cs = [.string fs[k].fName, .int .i64 fs[k].fMark, .int .i64 fs[k].fType] := hat
      have hn3 : fieldS.n = 3 := rfl
      have hblk : ∀ j, wo.cell? ⟨bf, of + k * 3 + j, none⟩ = w.cell? ⟨bf, of + k * 3 + j, none⟩ := fun j => World.cell?_of_block (a := ⟨bf, of + k * 3 + j, none⟩) (htw.block bf hbf1 hq.1 hq.2)
      have k0 := (hblk 0).trans (hcf 0 (by decide))
      have k1 := (hblk 1).trans (hcf 1 (by decide))
      have k2 := (hblk 2).trans (hcf 2 (by decide))
      simp at k0 k1 k2
      have hnk := Hn.out _ (List.getElem_mem hlt)
      have htk := Ht.out _ (List.getElem_mem hlt)
      have Hgat := Lib.hid (show gatL l 0 (fs.take (k + 1)) = gatL l 0 (fs.take k) ++ oneP l (endL l 0 (fs.take k)) fs[k] by rw [List.take_succ_eq_append_getElem hlt, gatL_app])
      have Hend := Lib.hid (show endL l 0 (fs.take (k + 1)) = nextE l (endL l 0 (fs.take k)) fs[k] by rw [List.take_succ_eq_append_getElem hlt, endL_app])
      have hgl := (gatL_len l (fs.take k) 0).1
      rw [List.length_take, Nat.min_eq_left (by omega)] at hgl
      have heb := endL_bd Hg.out.1 (fs.take k) 0 (by omega) (by omega)
      clear hcf hblk htw
      generalize fs[k] = f at *
      obtain ⟨nm, mk, ty⟩ := f
      dsimp only at hnk htk k0 k1 k2
      obtain ⟨tn, rfl⟩ := Int.eq_ofNat_of_zero_le htk.1
      have htn : tn < l.length := by omega
      generalize endL l 0 (fs.take k) = e at *
      have BA := ((Below.refl wo.heap.size wo).alloc (Nat.le_refl _) (.cells #[.string nm, .int .i64 mk, .int .i64 (tn : Int)] 79))
      have L1 := Lib.hid (Hl.out.below BA)
      have O1 := Lib.hid (Ho.out.below BA)
      have T1 := Lib.hid (Htw.out.trans (Two.none BA))
      clear BA
      go_wp2_with fail
      refine (iPlace l Hg.out a c S gd gm e nm mk tn _ heb.1 heb.2 htn (by omega) L1.out).mono ?_
      rintro r w2 ⟨hr2, hl2, ht2⟩
      have L2 := Lib.hid hl2
      have O2 := Lib.hid (O1.out.two ht2 (by omega) (by omega))
      have T2 := Lib.hid (T1.out.trans ht2)
      clear hl2 ht2 L1 O1 T1 Hl Ho Htw
      rcases hr2 with ⟨hok, rfl⟩ | ⟨hok, rfl⟩
      · have Hone := Lib.hid (show oneP l e ⟨nm, mk, (tn : Int)⟩ = [⟨nm, atZ l e ⟨nm, mk, (tn : Int)⟩, sizeS l (tn : Int)⟩] by unfold oneP; rw [if_pos hok])
        clear hok
        dsimp only
        generalize atZ l e ⟨nm, mk, (tn : Int)⟩ = az at *
        generalize sizeS l (tn : Int) = sz at *
        have BB := ((Below.refl w2.heap.size w2).alloc (Nat.le_refl _) (.cells #[.string nm, .int .i64 az, .int .i64 sz] 31)).alloc (by simp) (.cells #[.string nm, .int .i64 az, .int .i64 sz] 31)
        have O3 := Lib.hid (O2.out.below BB)
        have L3 := Lib.hid (L2.out.below BB)
        have T3 := Lib.hid (T2.out.trans (Two.none BB))
        have hs3 := T3.out.size
        clear BB
        go_wp2_with (at_builtin; refine wpList_pushP rfl (.tmp 23) (.tmp 25) rfl w.heap.size _ _ (gatL l 0 (fs.take k)) rfl _ O3.out ⟨nm, az, sz⟩ rfl (Box.new' _ _ _ (by simp)) (by omega) (by first | exact hs3 | (simp at *; omega)) ?_)
        intro v' w4 hown4 hg4 hlt4
        rw [← Hone.out, ← Hgat.out] at hown4
        have O4 := Lib.hid hown4
        have L4 := Lib.hid (L3.out.grown hg4 (fun j hj => (hlt4 j hj).1) hgd hgm)
        have T4 := Lib.hid (T3.out.grown hg4 (fun j hj => (hlt4 j hj).1))
        clear hown4 hg4 hlt4
        go_wp2_with fail
        exact ⟨⟨k + 1, _, by congr 1, rfl, by omega, O4.out, by rw [Hend.out]; exact L4.out, T4.out⟩, by simp [intOf]; omega⟩
      · have Hone := Lib.hid (show oneP l e ⟨nm, mk, (tn : Int)⟩ = [] by unfold oneP; rw [if_neg hok])
        clear hok
        have BB := ((Below.refl w2.heap.size w2).alloc (Nat.le_refl _) (.cells #[.string ByteArray.empty, .int .i64 0, .int .i64 0] 31))
        have O3 := Lib.hid (O2.out.below BB)
        have L3 := Lib.hid (L2.out.below BB)
        have T3 := Lib.hid (T2.out.trans (Two.none BB))
        clear BB
        have O4 := Lib.hid (show OwnP _ w.heap.size _ (gatL l 0 (fs.take (k + 1))) by rw [Hgat.out, Hone.out, List.append_nil]; exact O3.out)
        go_wp2_with fail
        exact ⟨⟨k + 1, _, by congr 1, rfl, by omega, O4.out, by rw [Hend.out]; exact L3.out, T3.out⟩, by simp [intOf]; omega⟩
    · have hkf : k = fs.length := by omega
      subst hkf
      have hown2 := Ho.out
      rw [List.take_length] at hown2
      have O2 := Lib.hid hown2
      clear hown2 htw
      go_wp2_with fail
      go_ret
      exact ⟨_, rfl, O2.out, Htw.out⟩
end Go.Proofs.Ytlfigpdjhljdnaa
