
/-
  What is proved: the state of the program's telling: a map that tells the place of each type that was met, and the types told so far in a row of one's own; the contract of the program's telling of a field, from that of its number; the contract of the program's number of no type, and of one that was met; what the state is once one more is met. No condition beside what each theorem states.
-/
import Derived.Test.YtaccifjkeblhpaaGreatExp
import Derived.Test.YtaccifjkeblhpaaGreatSize
namespace Go.Proofs.YtaccifjkeblhpaaGreat
open Go.ChangeShapes Go.WideShapes Go.ChangeAt Go.RowKit
set_option maxRecDepth 100000

theorem KMap.agree {S S' : Int → Int} {w : World} {b : Nat} {K : List Int} (h : KMap S w b K) (hs : ∀ x ∈ K, S x = S' x) : KMap S' w b K := by
  obtain ⟨D, h1, h2, h3⟩ := h
  exact ⟨D, h1, h2, fun x hx => ⟨(h3 x hx).1, fun hk => by rw [← hs x hk]; exact (h3 x hx).2 hk⟩⟩
/-- The state: the block g of the telling, its map at gm, the types told so far; X are blocks of others, in which nothing of it lies. -/
structure Te (l : List TypeD) (a : Option Addr) (c g gm B : Nat) (X : Nat → Prop) (w : World) (iv : Value) (o : List Int) (L : List TypeD) : Prop where
  box : Box w g 116 #[.slice a l.length c, iv, .map (some gm)]
  map : KMap (numZ o) w gm o
  own : OwnG typeS 72 B (fun q => B ≤ q ∧ ¬ X q) w iv L
  nx : ∀ q, iv.ownBlock = some q → ¬ X q
  xlt : ∀ q, X q → q < w.heap.size
  len : L.length = o.length
  met : Met l o
  gX : X g
  mX : X gm
  ne : g ≠ gm
  rows : Rows typeS (fun b => b < B ∧ b ≠ g ∧ b ≠ gm) w a l
  hB : B ≤ w.heap.size
section
variable {l : List TypeD} {a : Option Addr} {c g gm B : Nat} {X X' : Nat → Prop} {w w' : World} {iv iv' : Value} {o : List Int} {L : List TypeD}
theorem Te.far (h : Te l a c g gm B X w iv o L) : ∀ k, iv.ownBlock = some k → B ≤ k := fun k hk => (h.own.lt k hk).1
theorem Te.below (h : Te l a c g gm B X w iv o L) (hb : Below w.heap.size w w') : Te l a c g gm B X w' iv o L where
  box := h.box.below hb h.box.lt
  map := h.map.below hb
  own := h.own.below hb
  nx := h.nx
  xlt := fun q hq => Nat.lt_of_lt_of_le (h.xlt q hq) hb.size
  len := h.len
  met := h.met
  gX := h.gX
  mX := h.mX
  ne := h.ne
  rows := h.rows.below hb
  hB := Nat.le_trans h.hB hb.size
theorem Te.alloc (h : Te l a c g gm B X w iv o L) (ob : Obj) : Te l a c g gm B X (w.alloc ob) iv o L := h.below ((Below.refl _ _).alloc (Nat.le_refl _) ob)
/-- A block of another's is made. -/
theorem Te.other (h : Te l a c g gm B X w iv o L) (ob : Obj) : Te l a c g gm B (fun q => X q ∨ q = w.heap.size) (w.alloc ob) iv o L where
  box := (h.alloc ob).box
  map := (h.alloc ob).map
  own := (h.own.mono (P' := fun q => B ≤ q ∧ ¬ (X q ∨ q = w.heap.size)) (fun q hq hl => ⟨hq.1, fun e => by
    rcases e with e | e
    · exact hq.2 e
    · omega⟩)).below ((Below.refl _ _).alloc (Nat.le_refl _) ob)
  nx := fun q hq e => by
    rcases e with e | e
    · exact h.nx q hq e
    · have := (h.own.lt q hq).2; omega
  xlt := fun q hq => by
    have : w.heap.size < (w.alloc ob).heap.size := by simp
    rcases hq with hq | hq
    · have := h.xlt q hq; omega
    · omega
  len := h.len
  met := h.met
  gX := .inl h.gX
  mX := .inl h.mX
  ne := h.ne
  rows := (h.alloc ob).rows
  hB := (h.alloc ob).hB
theorem Te.less (h : Te l a c g gm B X w iv o L) (hx : ∀ q, X' q → X q) (hg : X' g) (hm : X' gm) : Te l a c g gm B X' w iv o L :=
  ⟨h.box, h.map, h.own.mono (fun q hq _ => ⟨hq.1, fun e => hq.2 (hx q e)⟩), fun q hq e => h.nx q hq (hx q e), fun q hq => h.xlt q (hx q hq), h.len, h.met, hg, hm, h.ne, h.rows, h.hB⟩
/-- A block of another's is written. -/
theorem Te.aside {b : Nat} (h : Te l a c g gm B X w iv o L) (ho : Only b w w') (hb : X b) (hB : B ≤ b) (hbg : b ≠ g) (hbm : b ≠ gm) : Te l a c g gm B X w' iv o L where
  box := h.box.only ho (Ne.symm hbg)
  map := h.map.block (ho.block gm h.map.lt (fun e => by injection e with e; exact hbm e.symm))
  own := h.own.keep (fun q hq hl => ho.block q hl (fun e => by
    injection e with e
    rcases hq with h1 | h1
    · exact h1.2 (e ▸ hb)
    · exact h.nx q h1 (e ▸ hb))) ho.size
  nx := h.nx
  xlt := fun q hq => Nat.lt_of_lt_of_le (h.xlt q hq) ho.size
  len := h.len
  met := h.met
  gX := h.gX
  mX := h.mX
  ne := h.ne
  rows := h.rows.keep (fun q hq hl => ho.block q hl (fun e => by injection e with e; omega)) ho.size
  hB := Nat.le_trans h.hB ho.size
/-- The number of one that was met. -/
theorem Te.idx (h : Te l a c g gm B X w iv o L) {x : Int} (hx : x ∈ o) : 0 ≤ numZ o x ∧ (numZ o x).toNat < L.length := by
  have h1 := (h.met.here x hx).1
  unfold numZ
  rw [if_neg (by omega)]
  have := List.idxOf_lt_length_of_mem hx
  rw [h.len]
  omega
end
theorem numZ_snoc {o : List Int} {x y : Int} (hx : x ∈ o) : numZ (o ++ [y]) x = numZ o x := by
  unfold numZ
  split
  · rfl
  · rw [List.idxOf_append, if_pos hx]
theorem numZ_last {o : List Int} {y : Int} (h0 : 0 ≤ y) (hy : y ∉ o) : numZ (o ++ [y]) y = (o.length : Int) := by
  unfold numZ
  rw [if_neg (by omega), List.idxOf_append, if_neg hy]
  simp
/-- One more is met: the map tells its place. -/
theorem Te.mapPut {l : List TypeD} {a : Option Addr} {c g gm B : Nat} {X : Nat → Prop} {w : World} {iv : Value} {o : List Int} {L : List TypeD} (h : Te l a c g gm B X w iv o L) {t : TypeId} (ht : Tryz.prog.underlying t = some (.map 3 3)) {y : Int} (h0 : 0 ≤ y) (h1 : y ≤ 1048576) (hl : o.length ≤ 1048576) (hy : y ∉ o) :
    ∃ w', (Instr.mapUpdate t (.map (some gm)) (.int .i64 y) (.int .i64 (o.length : Int))).run Tryz.prog w = .ok () w' ∧ KMap (numZ (o ++ [y])) w' gm (o ++ [y]) ∧ w.grownBy w' (some gm) := by
  have hk : KMap (numZ (o ++ [y])) w gm o := h.map.agree (fun x hx => (numZ_snoc hx).symm)
  have hw : ∀ z : Int, 0 ≤ z → z ≤ 1048576 → (Lit.int .i64 z).wf = true := fun z z0 z1 => by
    simp [Lit.wf, IntKind.min, IntKind.max, IntKind.signed, IntKind.bits]
    omega
  obtain ⟨w', r1, r2, r3⟩ := hk.put ht (by unfold maxLen; omega) (hw y h0 h1) (by rw [numZ_last h0 hy]; exact hw _ (by omega) (by omega))
  rw [numZ_last h0 hy] at r1
  exact ⟨w', r1, r2, r3⟩
/-- What a turn of the telling leaves: more is told, what was told stays. -/
def PostT (l : List TypeD) (a : Option Addr) (c g gm B : Nat) (X : Nat → Prop) (w : World) (iv : Value) (L : List TypeD) (o' : List Int) (w' : World) : Prop := ∃ iv' L', Te l a c g gm B X w' iv' o' L' ∧ OnlyP g gm iv w w' ∧ (∀ k, iv'.ownBlock = some k → iv.ownBlock = some k ∨ w.heap.size ≤ k) ∧ L.length ≤ L'.length ∧ ∀ k, (k < L.length → L'[k]? = L[k]?) ∧ (L.length ≤ k → k < L'.length → L'[k]? = some (transT o' (typeZat l (o'.getD k 0))))
/-- The contract of number, at one type. -/
def NumOk (l : List TypeD) (a : Option Addr) (c g gm B : Nat) (o : List Int) (n : Int) : Prop := ∀ (X : Nat → Prop) (w : World) (iv : Value) (L : List TypeD), Te l a c g gm B X w iv o L →
  Calls Tryz.prog 122 #[.pointer (some ⟨g, 0, none⟩), .int .i64 n] w fun e w' => e = .returned (.int .i64 (numZ (visitZ l o n) n)) ∧ PostT l a c g gm B X w iv L (visitZ l o n) w'
def CloneOk : Prop := ∀ (s : ByteArray) (w : World), s.size ≤ 1048576 → Calls Tryz.prog 80 #[.string s] w fun e w' => e = .returned (.string s) ∧ Below w.heap.size w w'
end Go.Proofs.YtaccifjkeblhpaaGreat

namespace Go.Proofs.YtaccifjkeblhpaaGreat
open Go.ChangeShapes Go.WideShapes Go.ChangeAt Go.RowKit
set_option maxRecDepth 100000

theorem OnlyP.farT {p q b : Nat} {v : Value} {w w1 w2 : World} (h : OnlyP p q v w w1) (ho : Only b w1 w2) (hb : w.heap.size ≤ b) : OnlyP p q v w w2 :=
  ⟨ho.os.trans h.1, ho.tape.trans h.2.1, ho.output.trans h.2.2.1, Nat.le_trans h.size ho.size, fun k h1 h2 h3 h4 => (ho.block k (Nat.lt_of_lt_of_le h1 h.size) (fun e => by injection e with e; omega)).trans (h.block h1 h2 h3 h4)⟩
theorem OnlyP.belowT {p q : Nat} {v : Value} {w w1 w2 : World} (h : OnlyP p q v w w1) (hb : Below w1.heap.size w1 w2) : OnlyP p q v w w2 := h.trans (v' := v) (.ofBelow hb) (fun _ e => .inl e)
theorem OnlyP.overT {p q : Nat} {v : Value} {w w1 w2 : World} (hb : Below w.heap.size w w1) (h : OnlyP p q v w1 w2) : OnlyP p q v w w2 := (OnlyP.ofBelow (p := p) (q := q) (v := v) hb).trans h (fun _ e => .inl e)

set_option maxHeartbeats 8000000 in
theorem iTellField (l : List TypeD) (a : Option Addr) (c g gm B : Nat) (o : List Int) (f : FieldD) (HN : NumOk l a c g gm B o f.fType) (HC : CloneOk) (hs : f.fName.size ≤ 1048576) (X : Nat → Prop) (w : World) (iv : Value) (L : List TypeD) (h : Te l a c g gm B X w iv o L) :
    Calls Tryz.prog 160 #[.pointer (some ⟨g, 0, none⟩), .agg #[.string f.fName, .int .i64 f.fMark, .int .i64 f.fType]] w fun e w' => e = .returned (.agg #[.string (transF (visitZ l o f.fType) f).fName, .int .i64 f.fMark, .int .i64 (numZ (visitZ l o f.fType) f.fType)]) ∧ PostT l a c g gm B X w iv L (visitZ l o f.fType) w' := by
  have hgB := h.box.lt
  have hmB := h.map.lt
  have HX := Lib.hid (And.intro h.gX h.mX)
  have hBw := h.hB
  have hivl := fun q hq => (h.own.lt q hq).2
  have T1 := Lib.hid ((h.other (.cells #[.string f.fName, .int .i64 f.fMark, .int .i64 f.fType] 135)).other (.cells #[.string ⟨#[]⟩, .int .i64 0, .int .i64 0] 135))
  have F1 := Lib.hid ((Box.new w 135 #[.string f.fName, .int .i64 f.fMark, .int .i64 f.fType]).alloc (.cells #[.string ⟨#[]⟩, .int .i64 0, .int .i64 0] 135))
  have R1 := Lib.hid (Box.new' (w.alloc (.cells #[.string f.fName, .int .i64 f.fMark, .int .i64 f.fType] 135)) 135 #[.string ⟨#[]⟩, .int .i64 0, .int .i64 0] (g := w.heap.size + 1) (by simp))
  have hb1 : Below w.heap.size w ((w.alloc (.cells #[.string f.fName, .int .i64 f.fMark, .int .i64 f.fType] 135)).alloc (.cells #[.string ⟨#[]⟩, .int .i64 0, .int .i64 0] 135)) := ((Below.refl w.heap.size w).alloc (Nat.le_refl _) _).alloc (by simp) _
  have HB1 := Lib.hid hb1
  have hs1 : (w.alloc (.cells #[.string f.fName, .int .i64 f.fMark, .int .i64 f.fType] 135)).heap.size = w.heap.size + 1 := by simp
  rw [hs1] at T1
  clear h hb1 hs1
  have c2 : _ = some (Value.int .i64 f.fType) := F1.out.cell 2
  go_enter Tryz.func160, Tryz.ntmps160
  go_wp2_with fail
  obtain ⟨b0, hb0⟩ : ∃ z, z = w.heap.size := ⟨_, rfl⟩
  rw [← hb0] at T1 F1 R1 hBw hivl
  have hbw : w.heap.size ≤ b0 := by omega
  rw [← hb0]
  clear hb0 c2
  generalize (w.alloc (.cells #[.string f.fName, .int .i64 f.fMark, .int .i64 f.fType] 135)).alloc (.cells #[.string ⟨#[]⟩, .int .i64 0, .int .i64 0] 135) = wa at *
  refine (HN _ _ _ _ T1.out).mono ?_
  rintro e w1 ⟨rfl, iv1, L1, hte, hop, hov, hll, hlk⟩
  have hg0 : b0 ≠ g := by omega
  have hm0 : b0 ≠ gm := by omega
  have F2 := Lib.hid (hop.box F1.out hg0 hm0 (fun e => by have := hivl b0 e; omega))
  have R2 := Lib.hid (hop.box R1.out (by omega) (by omega) (fun e => by have := hivl (b0 + 1) e; omega))
  have T2 := Lib.hid hte
  have O2 := Lib.hid (OnlyP.overT HB1.out hop)
  have OV := Lib.hid (show ∀ k, iv1.ownBlock = some k → iv.ownBlock = some k ∨ w.heap.size ≤ k from fun k hk => by
    rcases hov k hk with h1 | h1
    · exact .inl h1
    · have := HB1.out.size; exact .inr (by omega))
  have HL := Lib.hid hll
  have HK := Lib.hid hlk
  clear hte hop hov hll hlk T1 F1 R1 HB1 hivl
  obtain ⟨nz, hnz⟩ : ∃ z, z = numZ (visitZ l o f.fType) f.fType := ⟨_, rfl⟩
  rw [← hnz]
  have NZ := Lib.hid hnz.symm
  clear hnz
  have c2 : _ = some (Value.int .i64 f.fType) := F2.out.cell 2
  have fc := F2.out.free 2
  have hon2 := (Only.refl b0 w1).set 2 (.int .i64 nz)
  have FA := Lib.hid (show Box (w1.setCell ⟨b0, 2, none⟩ (.int .i64 nz)) b0 135 #[.string f.fName, .int .i64 f.fMark, .int .i64 nz] from F2.out.set 2 (.int .i64 nz))
  have RA := Lib.hid (R2.out.only hon2 (by omega))
  have TA := Lib.hid (T2.out.aside hon2 (.inl (.inr rfl)) (by omega) (by omega) (by omega))
  have OA := Lib.hid (O2.out.farT hon2 (by omega))
  have a0 : _ = some (Value.string f.fName) := FA.out.cell 0
  have a1 : _ = some (Value.int .i64 f.fMark) := FA.out.cell 1
  have af := FA.out.free 0
  clear hon2 F2 R2 T2 O2
  by_cases hmk : f.fMark = 0
  · have hmb : (f.fMark == 0) = true := beq_iff_eq.2 hmk
    have hon3 := (Only.refl b0 (w1.setCell ⟨b0, 2, none⟩ (.int .i64 nz))).set 0 (.string ⟨#[]⟩)
    have FX := Lib.hid (show Box ((w1.setCell ⟨b0, 2, none⟩ (.int .i64 nz)).setCell ⟨b0, 0, none⟩ (.string ⟨#[]⟩)) b0 135 #[.string ⟨#[]⟩, .int .i64 f.fMark, .int .i64 nz] from FA.out.set 0 (.string ⟨#[]⟩))
    have RX := Lib.hid (RA.out.only hon3 (by omega))
    have TX := Lib.hid (TA.out.aside hon3 (.inl (.inr rfl)) (by omega) (by omega) (by omega))
    have OX := Lib.hid (OA.out.farT hon3 (by omega))
    have b0c : _ = some (Value.string ⟨#[]⟩) := FX.out.cell 0
    have HM := Lib.hid hmk
    clear hon3 FA RA TA OA hmk
    go_wp2_with fail
    refine (HC ⟨#[]⟩ _ (by show 0 ≤ 1048576; omega)).mono ?_
    rintro e w3 ⟨rfl, hb3⟩
    have F3 := Lib.hid (FX.out.below hb3 FX.out.lt)
    have R3 := Lib.hid (RX.out.below hb3 RX.out.lt)
    have T3 := Lib.hid (TX.out.below hb3)
    have O3 := Lib.hid (OX.out.belowT hb3)
    clear hb3 FX RX TX OX
    have x0 : _ = some (Value.string ⟨#[]⟩) := F3.out.cell 0
    have fx := F3.out.free 0
    have hon := (Only.refl b0 w3).set 0 (.string ⟨#[]⟩)
    have F4 := Lib.hid (show Box (w3.setCell ⟨b0, 0, none⟩ (.string ⟨#[]⟩)) b0 135 #[.string ⟨#[]⟩, .int .i64 f.fMark, .int .i64 nz] from F3.out.set 0 (.string ⟨#[]⟩))
    have R4 := Lib.hid (R3.out.only hon (by omega))
    have T4 := Lib.hid (T3.out.aside hon (.inl (.inr rfl)) (by omega) (by omega) (by omega))
    have O4 := Lib.hid (O3.out.farT hon (by omega))
    have y0 : _ = some (Value.string ⟨#[]⟩) := F4.out.cell 0
    have y1 : _ = some (Value.int .i64 f.fMark) := F4.out.cell 1
    have y2 : _ = some (Value.int .i64 nz) := F4.out.cell 2
    have fr := R4.out.free
    have z0 : _ = some (Value.string ⟨#[]⟩) := R4.out.cell 0
    have z1 : _ = some (Value.int .i64 0) := R4.out.cell 1
    have z2 : _ = some (Value.int .i64 0) := R4.out.cell 2
    clear hon F3 R3 T3 O3
    go_wp2_with fail
    refine bodyPost_ret (results_one rfl Tryz.underlying135 rfl _ _ (b0 + 1) #[.string ⟨#[]⟩, .int .i64 f.fMark, .int .i64 nz] rfl 135 ?qbox 3 (by kernel_rfl) rfl) rfl ?_
    case qbox => exact ((R4.out.set 0 _).set 1 _).set 2 _
    have hof : ∀ v0 v1 v2, Only (b0 + 1) (w3.setCell ⟨b0, 0, none⟩ (.string ⟨#[]⟩)) ((((w3.setCell ⟨b0, 0, none⟩ (.string ⟨#[]⟩)).setCell ⟨b0 + 1, 0, none⟩ v0).setCell ⟨b0 + 1, 1, none⟩ v1).setCell ⟨b0 + 1, 2, none⟩ v2) := fun v0 v1 v2 => (((Only.refl _ _).set 0 _).set 1 _).set 2 _
    exact ⟨by unfold transF; simp only [if_pos HM.out]; rw [NZ.out], iv1, L1, (T4.out.aside (hof _ _ _) (.inr rfl) (by omega) (by omega) (by omega)).less (fun q hq => .inl (.inl hq)) HX.out.1 HX.out.2, O4.out.farT (hof _ _ _) (by omega), OV.out, HL.out, HK.out⟩
  · have hmb : (f.fMark == 0) = false := beq_eq_false_iff_ne.2 hmk
    have FX := Lib.hid FA.out
    have RX := Lib.hid RA.out
    have TX := Lib.hid TA.out
    have OX := Lib.hid OA.out
    clear FA RA TA OA
    go_wp2_with fail
    refine (HC f.fName _ (hs)).mono ?_
    rintro e w3 ⟨rfl, hb3⟩
    have F3 := Lib.hid (FX.out.below hb3 FX.out.lt)
    have R3 := Lib.hid (RX.out.below hb3 RX.out.lt)
    have T3 := Lib.hid (TX.out.below hb3)
    have O3 := Lib.hid (OX.out.belowT hb3)
    clear hb3 FX RX TX OX
    have x0 : _ = some (Value.string f.fName) := F3.out.cell 0
    have fx := F3.out.free 0
    have hon := (Only.refl b0 w3).set 0 (.string f.fName)
    have F4 := Lib.hid (show Box (w3.setCell ⟨b0, 0, none⟩ (.string f.fName)) b0 135 #[.string f.fName, .int .i64 f.fMark, .int .i64 nz] from F3.out.set 0 (.string f.fName))
    have R4 := Lib.hid (R3.out.only hon (by omega))
    have T4 := Lib.hid (T3.out.aside hon (.inl (.inr rfl)) (by omega) (by omega) (by omega))
    have O4 := Lib.hid (O3.out.farT hon (by omega))
    have y0 : _ = some (Value.string f.fName) := F4.out.cell 0
    have y1 : _ = some (Value.int .i64 f.fMark) := F4.out.cell 1
    have y2 : _ = some (Value.int .i64 nz) := F4.out.cell 2
    have fr := R4.out.free
    have z0 : _ = some (Value.string ⟨#[]⟩) := R4.out.cell 0
    have z1 : _ = some (Value.int .i64 0) := R4.out.cell 1
    have z2 : _ = some (Value.int .i64 0) := R4.out.cell 2
    clear hon F3 R3 T3 O3
    go_wp2_with fail
    refine bodyPost_ret (results_one rfl Tryz.underlying135 rfl _ _ (b0 + 1) #[.string f.fName, .int .i64 f.fMark, .int .i64 nz] rfl 135 ?qbox 3 (by kernel_rfl) rfl) rfl ?_
    case qbox => exact ((R4.out.set 0 _).set 1 _).set 2 _
    have hof : ∀ v0 v1 v2, Only (b0 + 1) (w3.setCell ⟨b0, 0, none⟩ (.string f.fName)) ((((w3.setCell ⟨b0, 0, none⟩ (.string f.fName)).setCell ⟨b0 + 1, 0, none⟩ v0).setCell ⟨b0 + 1, 1, none⟩ v1).setCell ⟨b0 + 1, 2, none⟩ v2) := fun v0 v1 v2 => (((Only.refl _ _).set 0 _).set 1 _).set 2 _
    exact ⟨by unfold transF; simp only [if_neg hmk]; rw [NZ.out], iv1, L1, (T4.out.aside (hof _ _ _) (.inr rfl) (by omega) (by omega) (by omega)).less (fun q hq => .inl (.inl hq)) HX.out.1 HX.out.2, O4.out.farT (hof _ _ _) (by omega), OV.out, HL.out, HK.out⟩
end Go.Proofs.YtaccifjkeblhpaaGreat

namespace Go.Proofs.YtaccifjkeblhpaaGreat
open Go.ChangeShapes Go.WideShapes Go.ChangeAt Go.RowKit
set_option maxRecDepth 100000

/-- Nothing more was met. -/
theorem PostT.same {l : List TypeD} {a : Option Addr} {c g gm B : Nat} {X : Nat → Prop} {w w' : World} {iv : Value} {o : List Int} {L : List TypeD} (h : Te l a c g gm B X w iv o L) (hb : Below w.heap.size w w') : PostT l a c g gm B X w iv L o w' :=
  ⟨iv, L, h.below hb, OnlyP.ofBelow hb, fun _ e => .inl e, Nat.le_refl _, fun _ => ⟨fun _ => rfl, fun h1 h2 => absurd h2 (by omega)⟩⟩

set_option maxHeartbeats 8000000 in
theorem iNumber_none (l : List TypeD) (a : Option Addr) (c g gm B : Nat) (o : List Int) : NumOk l a c g gm B o (-1) := by
  intro X w iv L h
  rw [visit_out (l := l) (o := o) (n := -1) (by omega)]
  have H := Lib.hid h
  clear h
  go_enter Tryz.func122, Tryz.ntmps122
  go_wp2_with fail
  go_ret
  exact ⟨rfl, PostT.same H.out (Below.refl _ _)⟩

set_option maxHeartbeats 8000000 in
theorem iNumber_met (l : List TypeD) (hl : l.length ≤ 24) (a : Option Addr) (c g gm B : Nat) (o : List Int) (k : Nat) (hk : k < l.length) (hm : (k : Int) ∈ o) : NumOk l a c g gm B o (k : Int) := by
  intro X w iv L h
  rw [visit_old hm]
  have hw : (Lit.int .i64 (k : Int)).wf = true := by
    simp [Lit.wf, IntKind.min, IntKind.max, IntKind.signed, IntKind.bits]
    omega
  obtain ⟨z, hrun, hz⟩ := h.map.look (t := 114) Tryz.underlying114 hw
  obtain rfl := hz hm
  rw [decide_eq_true hm] at hrun
  have H := Lib.hid h
  have x2 : _ = some (Value.map (some gm)) := h.box.cell 2
  have n1 : ((k : Int) == -1) = false := beq_eq_false_iff_ne.2 (by omega)
  clear h
  go_enter Tryz.func122, Tryz.ntmps122
  go_wp2_with fail
  go_ret
  exact ⟨rfl, PostT.same H.out (Below.refl _ _)⟩
/-- One more is met: its place is told by the map, and kept in the row. -/
theorem Te.more {l : List TypeD} {a : Option Addr} {c g gm B : Nat} {X : Nat → Prop} {w w1 w2 : World} {iv v' : Value} {o : List Int} {L : List TypeD} {y : Int} {t : TypeD} {ob : Obj} (h : Te l a c g gm B X w iv o L) (hy : 0 ≤ y ∧ y.toNat < l.length) (hn : y ∉ o)
    (hk : KMap (numZ (o ++ [y])) w1 gm (o ++ [y])) (hg : w.grownBy w1 (some gm)) (hown : OwnG typeS 72 B (fun q => B ≤ q ∧ ¬ X q) w2 v' (L ++ [t])) (hg2 : (w1.alloc ob).grownBy w2 iv.ownBlock) (hv : v'.ownBlock = iv.ownBlock ∨ v'.ownBlock = some (w1.alloc ob).heap.size) :
    Te l a c g gm B X (w2.setCell ⟨g, 1, none⟩ v') v' (o ++ [y]) (L ++ [t]) ∧ OnlyP g gm iv w (w2.setCell ⟨g, 1, none⟩ v') ∧ ∀ k, v'.ownBlock = some k → iv.ownBlock = some k ∨ w.heap.size ≤ k := by
  have hBw := h.hB
  have hne := h.ne
  have hfar := h.far
  have hgl := h.box.lt
  have hml := h.map.lt
  have hs1 : w.heap.size ≤ w1.heap.size := hg.size
  have hsa : (w1.alloc ob).heap.size = w1.heap.size + 1 := by simp
  have hs2 : w1.heap.size + 1 ≤ w2.heap.size := by rw [← hsa]; exact hg2.size
  have hon := (Only.refl g w2).set 1 v'
  have hs3 := hon.size
  have kp : ∀ q, q < w.heap.size → q ≠ gm → iv.ownBlock ≠ some q → w2.heap[q]? = w.heap[q]? := fun q hq hm hi =>
    (hg2.block q (by omega) (fun e => hi e.symm)).trans ((Below.heap_alloc w1 ob q (by omega)).trans (hg.block q hq (fun e => hm (by injection e))))
  have hgi : iv.ownBlock ≠ some g := fun e => h.nx g e h.gX
  have hmi : iv.ownBlock ≠ some gm := fun e => h.nx gm e h.mX
  have hb2 : Box w2 g 116 #[.slice a l.length c, iv, .map (some gm)] := (kp g hgl hne hgi).trans h.box
  have hoP : OnlyP g gm iv w (w2.setCell ⟨g, 1, none⟩ v') := ⟨hon.os.trans (hg2.os.trans (hg.os)), hon.tape.trans (hg2.tape.trans hg.tape), hon.output.trans (hg2.output.trans hg.output), by omega, fun q h1 h2 h3 h4 => (hon.block q (by omega) (fun e => by injection e with e; exact h2 e)).trans (kp q h1 h3 h4)⟩
  have hvv : ∀ k, v'.ownBlock = some k → iv.ownBlock = some k ∨ w.heap.size ≤ k := fun k hk => by
    rcases hv with e | e
    · exact .inl (e ▸ hk)
    · rw [e] at hk
      injection hk with hk
      exact .inr (by omega)
  refine ⟨⟨hb2.set 1 v', ?_, ?_, ?_, ?_, ?_, h.met.put hy hn, h.gX, h.mX, hne, ?_, by omega⟩, hoP, hvv⟩
  · exact hk.block ((hon.block gm (by omega) (fun e => by injection e with e; exact hne e.symm)).trans ((hg2.block gm (by omega) (fun e => hmi e.symm)).trans (Below.heap_alloc w1 ob gm (by omega))))
  · exact hown.keep (fun q hq hl => hon.block q hl (fun e => by
      injection e with e
      rcases hq with h1 | h1
      · exact h1.2 (by rw [e]; exact h.gX)
      · rcases hvv q h1 with h2 | h2
        · exact h.nx q h2 (by rw [e]; exact h.gX)
        · omega)) hon.size
  · intro q hq hx
    rcases hvv q hq with e | e
    · exact h.nx q e hx
    · have := h.xlt q hx; omega
  · intro q hq
    have := h.xlt q hq
    omega
  · rw [List.length_append, List.length_append, h.len]
    rfl
  · exact hoP.rows h.rows hfar
end Go.Proofs.YtaccifjkeblhpaaGreat
