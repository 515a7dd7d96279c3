
/-
  What is proved: contracts of the sums of types that are gone through once: the closure, and typeSums' of. No condition beside what each theorem states.
-/
import Derived.Test.YtllddjmcemcdhaaGreatOnce
import Derived.Test.YtllddjmcemcdhaaGreatRounds
import Derived.Deep.RegionHeld3
namespace Go.Proofs.YtllddjmcemcdhaaGreat
open Go.ChangeShapes Go.WideShapes Go.ChangeAt Go.RowKit
set_option maxRecDepth 100000

/-- The sum of a type, or of none. -/
def tyZ (T : List Int) (n : Int) : Int := if n = -1 then 5 else T.getD n.toNat 0
/-- Types with their sums, gone through or not: at block g, the sums in v. -/
structure TS (l : List TypeD) (a : Option Addr) (c g : Nat) (v : Value) (w : World) : Prop where
  box : ∃ d : Int, Box w g 73 #[.slice a l.length c, .int .u32 d, .int .i32 0, .int .u32 0, v] ∧ ((d = 0 ∧ v = .slice none 0 0) ∨ (d = 1 ∧ OwnInts w (g + 1) v (roundsZ l 25)))
theorem onlyS {g : Nat} {w w' : World} (h : Below w.heap.size w w') : Only g w w' := Only.ofBelow h

set_option maxHeartbeats 4000000 in
theorem iOfClo (l : List TypeD) (a : Option Addr) (c g p : Nat) (s z : Value) (w : World) (hpg : p ≠ g) (hl : l.length ≤ 24) (hrt : ∀ n (h : n < l.length), RT l.length l[n]) (hr : Rows typeS Any w a l)
    (hp : w.cell? ⟨p, 0, none⟩ = some (.pointer (some ⟨g, 0, none⟩))) (hg : Box w g 73 #[.slice a l.length c, .int .u32 0, s, z, .slice none 0 0]) :
    Calls Tryz.prog 81 #[.pointer (some ⟨p, 0, none⟩)] w fun e w' => e = .returned (.tuple #[]) ∧ (∃ v, Box w' g 73 #[.slice a l.length c, .int .u32 0, s, z, v] ∧ OwnInts w' w.heap.size v (roundsZ l 25) ∧ Only g w w') := by
  have G0 := Lib.hid (hg.drewN 1)
  have P0 := Lib.hid (show w.drew.cell? ⟨p, 0, none⟩ = some (.pointer (some ⟨g, 0, none⟩)) from hp)
  have HS := Lib.hid (iSumsBehind a c l 25 w.drew hl hrt (by omega) hr.drew)
  have hpl := World.block_lt_of_cell? _ _ hp
  clear hr hg hp
  go_enter Tryz.func81, Tryz.ntmps81
  go_wp2_with fail
  --SC<
  refine wp_region_held_drew (S := fun w' => w'.cell? ⟨p, 0, none⟩ = some (.pointer (some ⟨g, 0, none⟩)) ∧ w'.cell? ⟨g, 0, none⟩ = some (.slice a l.length c)) (by kernel_rfl) ?_ (fun hHeld => ?_)
  · try dsimp only
    exact ⟨P0.out, G0.out.cell 0⟩
  refine wpAnyH_take (i := 0) (oi := { dst := some 1, op := Op.load 59 (Operand.tmp 0), type := 59, pos := "l8_fingers.go:156", after := #[], guard := none }) (v := .pointer (some ⟨g, 0, none⟩)) rfl (by kernel_rfl) (by kernel_rfl) (by kernel_rfl) (fun _ _ _ h => h) (Or.inl ⟨by rfl, ?_⟩) (by assumption) ?_
  · intro wS hSw
    try dsimp only at hSw
    go_simp
  try simp only [Act.put, List.setIfInBounds_toArray, List.set_cons_zero, List.set_cons_succ]
  refine wpAnyH_take (i := 1) (oi := { dst := some 2, op := Op.load 59 (Operand.tmp 0), type := 59, pos := "l8_fingers.go:156", after := #[], guard := none }) (v := .pointer (some ⟨g, 0, none⟩)) rfl (by kernel_rfl) (by kernel_rfl) (by kernel_rfl) (fun _ _ _ h => h) (Or.inl ⟨by rfl, ?_⟩) (by assumption) ?_
  · intro wS hSw
    try dsimp only at hSw
    go_simp
  try simp only [Act.put, List.setIfInBounds_toArray, List.set_cons_zero, List.set_cons_succ]
  refine wpAnyH_take (i := 2) (oi := { dst := some 3, op := Op.nilCheck (Operand.tmp 2), type := 0, pos := "l8_fingers.go:156", after := #[{ on := 1, ground := Ground.data }], guard := none }) (v := .pointer (some ⟨g, 0, none⟩)) rfl (by kernel_rfl) (by kernel_rfl) (by kernel_rfl) (fun _ _ _ h => h) (Or.inl ⟨by rfl, ?_⟩) (by assumption) ?_
  · intro wS hSw
    try dsimp only at hSw
    go_simp
  try simp only [Act.put, List.setIfInBounds_toArray, List.set_cons_zero, List.set_cons_succ]
  refine wpAnyH_take (i := 3) (oi := { dst := some 4, op := Op.fieldAddr 73 (Operand.tmp 3) 0, type := 0, pos := "l8_fingers.go:156", after := #[{ on := 2, ground := Ground.data }], guard := none }) (v := .pointer (some ⟨g, 0, none⟩)) rfl (by kernel_rfl) (by kernel_rfl) (by kernel_rfl) (fun _ _ _ h => h) (Or.inl ⟨by rfl, ?_⟩) (by assumption) ?_
  · intro wS hSw
    try dsimp only at hSw
    go_simp
  try simp only [Act.put, List.setIfInBounds_toArray, List.set_cons_zero, List.set_cons_succ]
  refine wpAnyH_take (i := 4) (oi := { dst := some 5, op := Op.load 31 (Operand.tmp 4), type := 31, pos := "l8_fingers.go:156", after := #[{ on := 3, ground := Ground.data }], guard := none }) (v := .slice a l.length c) rfl (by kernel_rfl) (by kernel_rfl) (by kernel_rfl) (fun _ _ _ h => h) (Or.inl ⟨by rfl, ?_⟩) (by assumption) ?_
  · intro wS hSw
    try dsimp only at hSw
    go_simp
  try simp only [Act.put, List.setIfInBounds_toArray, List.set_cons_zero, List.set_cons_succ]
  refine wpAnyH_ready (rs := [5]) (by kernel_rfl) (by simp) ?_
  refine AllReadyH.cons (o := { dst := some 6, op := Op.call { callee := Callee.value (Operand.func 82), args := #[Operand.tmp 5, Operand.const (Value.int IntKind.i64 25)], argTypes := #[31, 3] }, type := 48, pos := "l8_fingers.go:156", after := #[{ on := 4, ground := Ground.data }], guard := none }) rfl (fun K hK => ?_) AllReadyH.nil
  go_simp
  go_at_call 82
  refine HS.out.mono ?_
  rintro e w1 ⟨v, rfl, hv, hb1⟩
  obtain ⟨va, vn, vc, rfl⟩ := hv.form
  have N1 := Lib.hid (G0.out.below hb1 G0.out.lt)
  have P1 := Lib.hid ((hb1.cell (p := ⟨p, 0, none⟩) hpl).trans P0.out)
  have O1 := Lib.hid hv
  have L1 := Lib.hid (show Only g w w1 from onlyS ⟨hb1.os, hb1.tape, hb1.output, hb1.size, hb1.block⟩)
  have vlt := World.ownsRow.lt hv
  clear hb1 hv
  have f4 := N1.out.free
  have x4 : w1.cell? ⟨g, 4, none⟩ = some (Value.slice none 0 0) := N1.out.cell 4
  refine hK.out _ _ ?_ (fun hHeld2 => ?_)
  · try dsimp only
    exact ⟨P1.out, N1.out.cell 0⟩
  clear hK K hHeld
  have hHeld := hHeld2
  clear hHeld2
  try simp only [Act.put, List.setIfInBounds_toArray, List.set_cons_zero, List.set_cons_succ]
  refine wpAnyH_take (i := 6) (oi := { dst := some 7, op := Op.nilCheck (Operand.tmp 1), type := 0, pos := "l8_fingers.go:156", after := #[{ on := 0, ground := Ground.data }, { on := 0, ground := Ground.phase }, { on := 1, ground := Ground.phase }, { on := 2, ground := Ground.phase }, { on := 3, ground := Ground.phase }, { on := 4, ground := Ground.phase }, { on := 5, ground := Ground.phase }], guard := none }) (v := .pointer (some ⟨g, 0, none⟩)) rfl (by kernel_rfl) (by kernel_rfl) (by kernel_rfl) (fun _ _ _ h => h) (Or.inl ⟨by rfl, ?_⟩) (by assumption) ?_
  · intro wS hSw
    try dsimp only at hSw
    go_simp
  try simp only [Act.put, List.setIfInBounds_toArray, List.set_cons_zero, List.set_cons_succ]
  refine wpAnyH_take (i := 7) (oi := { dst := some 8, op := Op.fieldAddr 73 (Operand.tmp 7) 2, type := 0, pos := "l8_fingers.go:156", after := #[{ on := 6, ground := Ground.data }, { on := 0, ground := Ground.phase }, { on := 1, ground := Ground.phase }, { on := 2, ground := Ground.phase }, { on := 3, ground := Ground.phase }, { on := 4, ground := Ground.phase }, { on := 5, ground := Ground.phase }], guard := none }) (v := .pointer (some ⟨g, 4, none⟩)) rfl (by kernel_rfl) (by kernel_rfl) (by kernel_rfl) (fun _ _ _ h => h) (Or.inl ⟨by rfl, ?_⟩) (by assumption) ?_
  · intro wS hSw
    try dsimp only at hSw
    go_simp
  try simp only [Act.put, List.setIfInBounds_toArray, List.set_cons_zero, List.set_cons_succ]
  refine wpAnyH_ready (rs := [8]) (by kernel_rfl) (by simp) ?_
  refine AllReadyH.cons (o := { dst := none, op := Op.store 48 (Operand.tmp 8) (Operand.tmp 6), type := 0, pos := "l8_fingers.go:156", after := #[{ on := 7, ground := Ground.data }, { on := 5, ground := Ground.data }, { on := 5, ground := Ground.chain }, { on := 0, ground := Ground.phase }, { on := 1, ground := Ground.phase }, { on := 2, ground := Ground.phase }, { on := 3, ground := Ground.phase }, { on := 4, ground := Ground.phase }, { on := 5, ground := Ground.phase }], guard := none }) rfl (fun K hK => ?_) AllReadyH.nil
  go_simp
  have N2 := Lib.hid (N1.out.set 4 (.slice va vn vc))
  have L2 := Lib.hid (L1.out.set 4 (.slice va vn vc))
  have O2 := Lib.hid (O1.out.keep (w' := w1.setCell ⟨g, 4, none⟩ (.slice va vn vc)) (fun k hk => Below.heap_setCell _ _ _ _ (by have := (vlt k hk).1; have := G0.out.lt; intro e; simp at *; omega)))
  have P2 := Lib.hid ((World.cell?_setCell_other w1 ⟨g, 4, none⟩ ⟨p, 0, none⟩ (.slice va vn vc) (fun e => by injection e with e1; exact hpg e1.symm)).trans P1.out)
  refine hK.out _ _ ?_ (fun hHeld2 => ?_)
  · try dsimp only
    exact ⟨P2.out, N2.out.cell 0⟩
  clear hK K hHeld
  have hHeld := hHeld2
  clear hHeld2
  try simp only [Act.put, List.setIfInBounds_toArray, List.set_cons_zero, List.set_cons_succ]
  refine wpAnyH_done (by kernel_rfl) ?_ _
  --SC>
  go_end0
  exact ⟨rfl, _, N2.out, O2.out, L2.out⟩

theorem sums_at {l : List TypeD} {w w' : World} {B : Nat} {v : Value} (h : OwnInts w B v (roundsZ l 25)) (hb : ∀ k, v.ownBlock = some k → w'.heap[k]? = w.heap[k]?) {m : Nat} (hm : m < l.length) : ∃ b c, v = .slice (some ⟨b, 0, none⟩) l.length c ∧ w'.cell? ⟨b, m, none⟩ = some (.int .i64 ((roundsZ l 25).getD m 0)) := by
  have hlen := roundsZ_len l 25
  obtain ⟨a, c, rfl, hc, hn⟩ := h.nums
  have hm2 : m < (roundsZ l 25).length := by rw [hlen]; exact hm
  rcases h.2 with ⟨_, h0⟩ | ⟨g, cap, cur, he, _⟩
  · omega
  injection he with he _ _
  subst he
  obtain ⟨_, hcell⟩ := hn.at m hm2
  rw [Nat.zero_add] at hcell
  refine ⟨g, c, by rw [hlen], (World.cell?_of_block (hb g rfl)).trans hcell⟩

theorem of_fin {l : List TypeD} {a : Option Addr} {c g : Nat} {w w2 w3 : World} {v2 : Value} {m : Nat} (hgl : g < w.heap.size) (hm : m < l.length) (hb2 : Box w2 g 73 #[.slice a l.length c, .int .u32 0, .int .i32 1, .int .u32 0, v2]) (ho2 : OwnInts w2 ((w.alloc (.cells #[.pointer (some ⟨g, 0, none⟩)] 59)).setCell ⟨g, 1 + 1, none⟩ (.int .i32 1)).heap.size v2 (roundsZ l 25)) (hon2 : Only g ((w.alloc (.cells #[.pointer (some ⟨g, 0, none⟩)] 59)).setCell ⟨g, 1 + 1, none⟩ (.int .i32 1)) w2) (hw3 : w3 = (w2.drew.setCell ⟨g, 1, none⟩ (.int .u32 1)).setCell ⟨g, 1 + 1, none⟩ (.int .i32 0)) :
    ∃ b c2, v2 = .slice (some ⟨b, 0, none⟩) l.length c2 ∧ TS l a c g v2 w3 ∧ Only g w w3 ∧ w3.cell? ⟨w.heap.size, 0, none⟩ = some (.pointer (some ⟨g, 0, none⟩)) ∧ w3.cell? ⟨g, 4, none⟩ = some v2 ∧ w3.cell? ⟨b, m, none⟩ = some (.int .i64 ((roundsZ l 25).getD m 0)) ∧ (∀ k, v2.ownBlock = some k → w.heap.size ≤ k) := by
  have hs : ((w.alloc (.cells #[.pointer (some ⟨g, 0, none⟩)] 59)).setCell ⟨g, 1 + 1, none⟩ (.int .i32 1)).heap.size = w.heap.size + 1 := by simp [World.setCell]
  rw [hs] at ho2
  have hlt := World.ownsRow.lt ho2
  have h3 : Only g w2 w3 := by rw [hw3]; exact (((Only.refl g w2).drew).set 1 (.int .u32 1)).set (1 + 1) (.int .i32 0)
  have hk : ∀ k, v2.ownBlock = some k → w3.heap[k]? = w2.heap[k]? := fun k hk => h3.block k (hlt k hk).2 (fun e => by injection e with e; have := (hlt k hk).1; omega)
  obtain ⟨b, c2, hv, hcell⟩ := sums_at ho2 hk hm
  have hbx : Box w3 g 73 #[.slice a l.length c, .int .u32 1, .int .i32 0, .int .u32 0, v2] := by rw [hw3]; exact (((hb2.drewN 1).set 1 (.int .u32 1)).set 2 (.int .i32 0))
  have hbel : Only g w w2 := ((onlyS ((Below.refl w.heap.size w).alloc (Nat.le_refl _) _)).set (1 + 1) (.int .i32 1)).trans hon2
  have hw1 : ((w.alloc (.cells #[.pointer (some ⟨g, 0, none⟩)] 59)).setCell ⟨g, 1 + 1, none⟩ (.int .i32 1)).cell? ⟨w.heap.size, 0, none⟩ = some (.pointer (some ⟨g, 0, none⟩)) := (World.cell?_setCell_other _ ⟨g, 1 + 1, none⟩ ⟨w.heap.size, 0, none⟩ _ (fun e => by injection e with e1; omega)).trans ((Box.new w 59 #[.pointer (some ⟨g, 0, none⟩)]).cell 0)
  refine ⟨b, c2, hv, ⟨1, hbx, .inr ⟨rfl, (ho2.keep hk).lower (by omega)⟩⟩, hbel.trans h3, ?_, hbx.cell 4, hcell, fun k hk => by have := (hlt k hk).1; omega⟩
  have hs2 := hon2.size
  rw [hs] at hs2
  refine (World.cell?_of_block (h3.block w.heap.size (by omega) (fun e => by injection e with e; omega))).trans ?_
  exact (World.cell?_of_block (hon2.block w.heap.size (by rw [hs]; omega) (fun e => by injection e with e; omega))).trans hw1

set_option maxHeartbeats 8000000 in
theorem iOf (l : List TypeD) (a : Option Addr) (c g : Nat) (v : Value) (n : Int) (w : World) (hts : TS l a c g v w) (hl : l.length ≤ 24) (hrt : ∀ n (h : n < l.length), RT l.length l[n]) (hr : Rows typeS (fun q => q ≠ g) w a l) (hn : n = -1 ∨ (0 ≤ n ∧ n < (l.length : Int))) :
    Calls Tryz.prog 56 #[.pointer (some ⟨g, 0, none⟩), .int .i64 n] w fun e w' => e = .returned (.int .i64 (tyZ (roundsZ l 25) n)) ∧ ∃ v', TS l a c g v' w' ∧ (v' = v ∨ ∀ k, v'.ownBlock = some k → w.heap.size ≤ k) ∧ Only g w w' := by
  obtain ⟨d, hbox, hd⟩ := hts.box
  have hgl := hbox.lt
  have B0 := (Below.refl w.heap.size w).alloc (Nat.le_refl _) (.cells #[.pointer (some ⟨g, 0, none⟩)] 59)
  have L0 := Lib.hid (show Only g w (w.alloc (.cells #[.pointer (some ⟨g, 0, none⟩)] 59)) from onlyS B0)
  have X0 := Lib.hid (Box.new w 59 #[.pointer (some ⟨g, 0, none⟩)])
  have G0 := Lib.hid (hbox.below B0 hgl)
  have R0 := Lib.hid (hr.below B0)
  by_cases h1 : n = -1
  · subst h1
    have T0 := Lib.hid (show TS l a c g v (w.alloc (.cells #[.pointer (some ⟨g, 0, none⟩)] 59)) from ⟨d, G0.out, hd.imp id (fun h => ⟨h.1, OwnInts.alloc h.2 _⟩)⟩)
    clear hbox hd hts hr B0
    go_enter Tryz.func56, Tryz.ntmps56
    go_wp2_with fail
    go_ret
    exact ⟨rfl, v, T0.out, .inl rfl, L0.out⟩
  obtain ⟨m, rfl⟩ := Int.eq_ofNat_of_zero_le (show 0 ≤ n by omega)
  have hm : m < l.length := by omega
  have HZ := Lib.hid (show tyZ (roundsZ l 25) (m : Int) = (roundsZ l 25).getD m 0 by unfold tyZ; rw [if_neg h1]; rfl)
  have hm1 : ((m : Int) == -1) = false := by first | (simp; done) | (simp; omega)
  have i1 : (0 : Int) ≤ (m : Int) := by omega
  have i2 : (m : Int) < (l.length : Int) := by omega
  rcases hd with ⟨rfl, rfl⟩ | ⟨rfl, hown⟩
  · have x0 : (w.alloc (.cells #[.pointer (some ⟨g, 0, none⟩)] 59)).cell? ⟨w.heap.size, 0, none⟩ = some (.pointer (some ⟨g, 0, none⟩)) := X0.out.cell 0
    have W1 := Lib.hid (show Box ((w.alloc (.cells #[.pointer (some ⟨g, 0, none⟩)] 59)).setCell ⟨g, 1 + 1, none⟩ (.int .i32 1)) g 73 #[.slice a l.length c, .int .u32 0, .int .i32 1, .int .u32 0, .slice none 0 0] from G0.out.set 2 (.int .i32 1))
    have hpg : w.heap.size ≠ g := by omega
    have hxp : ((w.alloc (.cells #[.pointer (some ⟨g, 0, none⟩)] 59)).setCell ⟨g, 1 + 1, none⟩ (.int .i32 1)).cell? ⟨w.heap.size, 0, none⟩ = some (.pointer (some ⟨g, 0, none⟩)) := (World.cell?_setCell_other _ ⟨g, 1 + 1, none⟩ ⟨w.heap.size, 0, none⟩ _ (fun e => by injection e with e1; exact hpg e1.symm)).trans x0
    have hrw : Rows typeS Any ((w.alloc (.cells #[.pointer (some ⟨g, 0, none⟩)] 59)).setCell ⟨g, 1 + 1, none⟩ (.int .i32 1)) a l := (R0.out.keep (fun b hb _ => Below.heap_setCell _ _ _ _ (fun e => hb (by simpa using e))) (by simp [World.setCell])).any
    have HF := Lib.hid (iOfClo l a c g w.heap.size (.int .i32 1) (.int .u32 0) _ hpg hl hrt hrw hxp W1.out)
    have HD := Lib.hid (once_first g 1 ⟨w.heap.size, 0, none⟩ (w.alloc (.cells #[.pointer (some ⟨g, 0, none⟩)] 59)) _ (G0.out.cell 1) (G0.out.cell 2) (G0.out.free 2) HF.out (fun w' hR => by
      obtain ⟨v, hb, _, _⟩ := hR
      exact ⟨hb.cell 1, hb.cell 2, hb.free 1, hb.free 2⟩))
    clear hbox hts hr B0 HF hrw hxp
    go_enter Tryz.func56, Tryz.ntmps56
    go_wp2_with (go_at_call 80; refine HD.out.mono ?_; rintro e w3 ⟨rfl, w2, ⟨v2, hb2, ho2, hon2⟩, hw3⟩; obtain ⟨b, c2, hv2, ht3, hl3, y0, y4, yc, hfr⟩ := of_fin hgl hm hb2 ho2 hon2 hw3; have HT3 := Lib.hid ht3; have HL3 := Lib.hid hl3; have HFR := Lib.hid hfr; subst hv2; clear hb2 ho2 hon2 hw3 ht3 hl3 hfr x0)
    go_ret
    exact ⟨by rw [HZ.out]; rfl, _, HT3.out, .inr HFR.out, HL3.out⟩
  · obtain ⟨b, c2, hv, hcell⟩ := sums_at (w' := w.alloc (.cells #[.pointer (some ⟨g, 0, none⟩)] 59)) hown (fun k hk => by have := World.ownsRow.lt hown k hk; exact B0.block k this.2) hm
    subst hv
    have T0 := Lib.hid (show TS l a c g (.slice (some ⟨b, 0, none⟩) l.length c2) (w.alloc (.cells #[.pointer (some ⟨g, 0, none⟩)] 59)) from ⟨1, G0.out, .inr ⟨rfl, OwnInts.alloc hown _⟩⟩)
    have x0 : (w.alloc (.cells #[.pointer (some ⟨g, 0, none⟩)] 59)).cell? ⟨w.heap.size, 0, none⟩ = some (.pointer (some ⟨g, 0, none⟩)) := X0.out.cell 0
    have g1 : (w.alloc (.cells #[.pointer (some ⟨g, 0, none⟩)] 59)).cell? ⟨g, 1, none⟩ = some (.int .u32 1) := G0.out.cell 1
    have g4 : (w.alloc (.cells #[.pointer (some ⟨g, 0, none⟩)] 59)).cell? ⟨g, 4, none⟩ = some (.slice (some ⟨b, 0, none⟩) l.length c2) := G0.out.cell 4
    clear hbox hts hr B0 hown
    generalize (roundsZ l 25).getD m 0 = r at *
    go_enter Tryz.func56, Tryz.ntmps56
    go_wp2_with (go_at_call 80; refine (once_done ⟨g, 1, none⟩ _ _ g1).mono ?_; rintro e w' ⟨rfl, rfl⟩)
    go_ret
    exact ⟨by rw [HZ.out]; rfl, _, T0.out, .inl rfl, L0.out⟩
end Go.Proofs.YtllddjmcemcdhaaGreat
