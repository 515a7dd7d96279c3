
/-
  What is proved: the contract of the program's FileBytes, and the walk of the law FnExactFileBytes. No condition beside what each theorem states.
-/
import Derived.Test.YtaccifjkeblhpaaGreatFileM
import Derived.Test.YtaccifjkeblhpaaGreatLIsExp
import Derived.Lib.SlBytesConst
namespace Go.Proofs.YtaccifjkeblhpaaGreat
open Go.ChangeShapes Go.WideShapes Go.ChangeAt Go.RowKit
set_option maxRecDepth 100000

theorem Wr.open {B g : Nat} {w : World} {bs : ByteArray} {sp : Bool} (h : Wr B g w bs sp) : ∃ a c, w.cell? ⟨g, 0, none⟩ = some (.slice a bs.size c) ∧ (convert 64 9 (.slice a bs.size c)).run Tryz.prog w = .ok (.string bs) w := by
  obtain ⟨hB, v, hx, hown⟩ := h
  have c0 : _ = some v := hx.cell 0
  rw [strCells_nums] at hown
  obtain ⟨a, c, rfl⟩ := row_form hown
  have kc := convOwn hown
  rw [strOf_nums] at kc
  exact ⟨a, c, c0, kc⟩
theorem headF_cells : Lib.strCells headF = [.int .u8 79, .int .u8 83, .int .u8 49] := rfl
theorem own_below {w w' : World} {B n size : Nat} {e : TypeId} {v : Value} {xs : List Value} (h : w.ownsRow B e size v n xs) (hb : Below w.heap.size w w') : w'.ownsRow B e size v n xs :=
  ⟨h.1, h.2.imp id (fun ⟨g, cap, cur, h1, h2, h3, h4⟩ => ⟨g, cap, cur, h1, h2, (hb.block g (Array.getElem?_eq_some_iff.1 h3).1).trans h3, h4⟩)⟩

/-- A row of bytes that is read, not owned: what is put behind it lies in a new block. -/
theorem run_append_lit {w : World} (ty : TypeId) (base b n : Nat) (xs : List Value) (hx : xs.length = n) (holds : ∀ (j : Nat) (v : Value), xs[j]? = some v → w.cell? ((⟨b, 0, none⟩ : Addr).add j) = some v) (s : ByteArray) (hs : 0 < s.size) (hsm : n + s.size ≤ 1000000) (hbase : base ≤ w.heap.size) :
    ∃ v' w', (Builtin.append_ #[64, 9] ty #[.slice (some ⟨b, 0, none⟩) n n, .string s]).run Tryz.prog w = .ok v' w' ∧ w'.ownsRow base 5 1 v' (n + s.size) (xs ++ Lib.strCells s) ∧ Below w.heap.size w w' := by
  obtain ⟨i0, hi, hz0, hz1, hz2⟩ := info_parts info8
  have hmx : n + s.size ≤ maxLen := by unfold maxLen; omega
  have hr := Lib.run_append_grow_string (P := Tryz.prog) (w := w) 64 9 ty 5 i0 (.int .u8 0) Tryz.underlying64 Tryz.underlying9 hi hz0 ⟨b, 0, none⟩ n n xs (by rw [hz1, hx]; omega) holds s (by omega) (by omega) (by rw [hz2]; exact growslice_fits (by omega) (by omega))
  have hge := grownCap_ge w (n + s.size) n 5
  have hcm := grownCap_le_maxLen w (n + s.size) n 5 hmx
  have hlen : (xs ++ Lib.strCells s).length = (n + s.size) * 1 := by rw [List.length_append, hx, Lib.strCells_length, Nat.mul_one]
  refine ⟨_, _, hr, ⟨hlen, .inr ⟨w.heap.size, _, _, rfl, hbase, heap_alloc_new w.drew _, hge, hcm, ?_, ?_⟩⟩, (belowN (Below.refl _ _) 1).alloc (Nat.le_refl _) _⟩
  · have hz1 : (Value.int IntKind.u8 0).cells.size = 1 := rfl
    simp only [Array.size_append, List.size_toArray, size_zeroCells, hz1, hx, Lib.strCells_length]
    omega
  · simp only [Array.toList_append, List.append_assoc]
    rw [← List.append_assoc, ← hlen]
    exact List.take_left
theorem wpList_append_lit {ops : Array Oper} {rest : List Oper} {o : Oper} {a : Act} {Q : Exit → Act → World → Prop} {w : World} (hgd : o.guard = none) (sl x : Operand)
    (ho : o.op = .call { callee := .builtin .append, args := #[sl, x], argTypes := #[64, 9] })
    (base b n : Nat) (xs : List Value) (hs : a.eval sl = .slice (some ⟨b, 0, none⟩) n n) (hxl : xs.length = n) (holds : ∀ (j : Nat) (v : Value), xs[j]? = some v → w.cell? ((⟨b, 0, none⟩ : Addr).add j) = some v) (s : ByteArray) (hx : a.eval x = .string s) (h0 : 0 < s.size) (hsm : n + s.size ≤ 1000000) (hbase : base ≤ w.heap.size)
    (h : ∀ v' w', w'.ownsRow base 5 1 v' (n + s.size) (xs ++ Lib.strCells s) → Below w.heap.size w w' → wpList Tryz.prog ops Q rest (a.put o.dst v') w') : wpList Tryz.prog ops Q (o :: rest) a w := by
  refine wpList_plain hgd fun K hK => ?_
  obtain ⟨v', w', hr, h2, h3⟩ := run_append_lit o.type base b n xs hxl holds s h0 hsm hbase
  unfold Oper.wp execOp
  simp only [ho, resolve, invoke, builtin, Sem.run_bind, Sem.run_pure, Result.andThen_ok, List.map_toArray, List.map_cons, List.map_nil, hs, hx, hr]
  exact hK _ _ (h v' w' h2 h3)

set_option maxHeartbeats 4000000 in
theorem iPutFirst (B g b : Nat) (s : ByteArray) (w : World) (hB : B ≤ g) (hx : Box w g 66 #[.slice (some ⟨b, 0, none⟩) 3 3, .bool false]) (c0 : w.cell? ⟨b, 0, none⟩ = some (.int .u8 79)) (c1 : w.cell? ⟨b, 1, none⟩ = some (.int .u8 83)) (c2 : w.cell? ⟨b, 2, none⟩ = some (.int .u8 49)) (h0 : 0 < s.size) (hs : s.size ≤ 1000) :
    Calls Tryz.prog 44 #[.pointer (some ⟨g, 0, none⟩), .string s, .bool true] w fun e w' => e = .returned (.tuple #[]) ∧ Wr B g w' (headF ++ s) false ∧ Below B w w' := by
  have X := Lib.hid hx
  have hBw : B ≤ w.heap.size := Nat.le_trans hB (Nat.le_of_lt hx.lt)
  have x0 : _ = some _ := hx.cell 0
  have x1 : _ = some (Value.bool false) := hx.cell 1
  have f0 := hx.free 0
  have f1 := hx.free 1
  have Holds := Lib.hid (show ∀ (j : Nat) (v : Value), (Lib.strCells headF)[j]? = some v → w.cell? ((⟨b, 0, none⟩ : Addr).add j) = some v from fun j v h => by
    rw [headF_cells] at h
    match j, h with
    | 0, h => simp at h; subst h; exact c0
    | 1, h => simp at h; subst h; exact c1
    | 2, h => simp at h; subst h; exact c2)
  clear hx c0 c1 c2
  go_enter Tryz.func44, Tryz.ntmps44
  go_wp2_with (at_builtin; refine wpList_append_lit rfl _ _ rfl B b 3 (Lib.strCells headF) rfl rfl Holds.out s rfl h0 (by omega) hBw ?_)
  intro v' w4 hown4 hb4
  have B4 := Lib.hid (show Below B w w4 from hb4.mono hBw)
  have X4 := Lib.hid (X.out.below hb4 X.out.lt)
  rw [← strCells_append] at hown4
  have hsz : (headF ++ s).size = 3 + s.size := by rw [ByteArray.size_append]; rfl
  rw [← hsz] at hown4
  obtain ⟨a4, c4, rfl⟩ := row_form hown4
  have O4 := Lib.hid hown4
  clear hb4 hown4 x0 x1 f0 f1
  have x0 : _ = some _ := X4.out.cell 0
  have x1 : _ = some (Value.bool false) := X4.out.cell 1
  have f0 := X4.out.free 0
  have f1 := X4.out.free 1
  have hB4 := B4.out.size
  rw [hsz]
  go_wp2_with fail
  go_end0
  refine ⟨rfl, ⟨hB, .slice a4 (headF ++ s).size c4, ?_, ?_⟩, (B4.out.setCell hB _).setCell hB _⟩
  · rw [hsz]
    exact (X4.out.set 0 _).set 1 _
  · exact own_set (own_set O4.out X4.out (by decide)) (X4.out.set 0 _) (by decide)

theorem namePart_pos {s : ByteArray} (h : nameB s = true) : 0 < (namePart s).size := by
  unfold namePart
  rw [if_pos (nameP_of h)]
  unfold nbytes
  rw [ByteArray.size_append, strOfNums_size]
  simp
  omega

set_option maxHeartbeats 16000000 in
theorem iFileBytes (s : ScopeD) (a1 a2 a3 a4 : Option Addr) (w : World) (K : ScopeK s) (hr : ScopeR Any w a1 a2 a3 a4 s) :
    Calls Tryz.prog 14 #[.agg (scopeC s a1 a2 a3 a4 s.fImports.length s.fTypes.length s.fObjects.length s.fUses.length)] w fun e w' => e = .returned (.tuple #[.string (fileAns s), .bool (fileB s)]) ∧ Below w.heap.size w w' := by
  have B0 := Lib.hid ((Below.refl w.heap.size w).alloc (Nat.le_refl _) (.cells (scopeC s a1 a2 a3 a4 s.fImports.length s.fTypes.length s.fObjects.length s.fUses.length) 33))
  have X0 := Lib.hid (Box.new w 33 (scopeC s a1 a2 a3 a4 s.fImports.length s.fTypes.length s.fObjects.length s.fUses.length))
  have R0 := Lib.hid (hr.below B0.out)
  have HI := Lib.hid (fun W (hW : ScopeR Any W a1 a2 a3 a4 s) => iIsExport s a1 a2 a3 a4 W K hW)
  clear hr K
  cases hq : isExpB s
  · have HA := Lib.hid (show fileAns s = ⟨#[]⟩ ∧ fileB s = false by unfold fileAns fileB; rw [hq]; exact ⟨rfl, rfl⟩)
    rw [hq] at HI
    generalize scopeB s = sq at *
    go_enter Tryz.func14, Tryz.ntmps14
    obtain ⟨x0, x1, x2, x3, x4⟩ := box5 X0.out
    go_wp2_with fail
    refine (HI.out _ R0.out).mono ?_
    rintro e w1 ⟨rfl, hb⟩
    have B1 := Lib.hid (B0.out.trans (hb.mono B0.out.size))
    clear hb x0 x1 x2 x3 x4
    go_wp2_with fail
    go_ret2
    exact ⟨by rw [HA.out.1, HA.out.2]; rfl, B1.out⟩
  have F := isExp_ok hq
  have h3 := F.three
  have HA := Lib.hid (show (fileZ s).size ≤ 3000 → fileAns s = fileZ s ∧ fileB s = true from fun hsz => by
    have : fileB s = true := by unfold fileB; rw [hq, decide_eq_true hsz]; rfl
    unfold fileAns; rw [this]; exact ⟨rfl, rfl⟩)
  have HAn := Lib.hid (show ¬ (fileZ s).size ≤ 3000 → fileAns s = ⟨#[]⟩ ∧ fileB s = false from fun hsz => by
    have : fileB s = false := by unfold fileB; rw [hq, decide_eq_false hsz]; rfl
    unfold fileAns; rw [this]; exact ⟨rfl, rfl⟩)
  rw [hq] at HI
  clear hq
  generalize scopeB s = sq at *
  have hdl : (s.fTypes.drop 3).length = s.fTypes.length - 3 := by simp
  have HN := Lib.hid (fun W => iName s.fName W (by have := nameP_of F.name; unfold maxLen; have := this.2.1; omega))
  have hnb := F.name
  rw [hnb] at HN
  clear hnb
  have HET := Lib.hid (fun w1 g α c W bs (h : Wr w1.heap.size g W bs false) (hb0 : Below w1.heap.size w1 W) (hs : bs.size ≤ 20000) (hr : Rows typeS Any w1 α (s.fTypes.drop 3)) => by
    have h := iEachType w1 g α c (s.fTypes.drop 3) 21 W bs false h hb0 (by have := F.most; rw [hdl]; omega) hr (fun t ht => (F.types t ht).2)
    rw [F.each.1] at h
    exact h)
  have HEO := Lib.hid (fun w1 g α c W bs (h : Wr w1.heap.size g W bs false) (hb0 : Below w1.heap.size w1 W) (hs : bs.size ≤ 20000) (hr : Rows objectS Any w1 α s.fObjects) => by
    have h := iEachObject w1 g α c s.fObjects 16 W bs false h hb0 (by have := F.few; omega) hr (fun t ht => (F.objects t ht).2)
    rw [F.each.2] at h
    exact h)
  have Fin := Lib.hid (show filePart s = headF ++ namePart s.fName ++ eachPart typePart (s.fTypes.drop 3) ++ eachPart objPart s.fObjects from rfl)
  have Fin2 := Lib.hid (show fileZ s = filePart s ++ sumPart (filePart s) from rfl)
  have zs := F.size
  have zp := sumPart_size (filePart s)
  have hsz0 : headF.size = 3 := rfl
  have z4 : (headF ++ namePart s.fName).size ≤ 20000 ∧ (headF ++ namePart s.fName ++ eachPart typePart (s.fTypes.drop 3)).size ≤ 20000 := by
    rw [Fin.out] at zs
    simp only [ByteArray.size_append] at zs ⊢
    omega
  have Z4 := Lib.hid z4
  have z5 := namePart_size s.fName
  have zq : 0 < (namePart s.fName).size := namePart_pos F.name
  clear F z4
  generalize hT : s.fTypes.drop 3 = T at *
  generalize hFZ : fileZ s = FZ at *
  generalize hFP : filePart s = FP at *
  generalize namePart s.fName = P1 at *
  generalize eachPart typePart T = P2 at *
  generalize eachPart objPart s.fObjects = P3 at *
  have HSum := Lib.hid (fun W => iSumBytes FP W (by omega))
  generalize sumPart FP = SP at *
  have HT := Lib.hid hT
  clear hT hFZ hFP
  go_enter Tryz.func14, Tryz.ntmps14
  obtain ⟨x0, x1, x2, x3, x4⟩ := box5 X0.out
  go_wp2_with fail
  refine (HI.out _ R0.out).mono ?_
  rintro e w1 ⟨rfl, hb⟩
  have B1 := Lib.hid (B0.out.trans (hb.mono B0.out.size))
  have X1 := Lib.hid (X0.out.below hb X0.out.lt)
  have R1 := Lib.hid (R0.out.below hb)
  clear hb x0 x1 x2 x3 x4
  obtain ⟨tb, to, _, ha2, _⟩ := R1.out.types 0 (by omega)
  subst ha2
  have R2 := Lib.hid (show Rows typeS Any w1 (some ⟨tb, to + 18, none⟩) T by rw [← HT.out]; exact rows_drop 3 R1.out.types)
  have RO := Lib.hid R1.out.objects
  have kc := Lib.run_convert_bytes_const (P := Tryz.prog) w1 64 5 #[.int .u8 79, .int .u8 83, .int .u8 49] 3 3 Tryz.underlying64 Tryz.underlying5
  have hmw : (Tryz.prog.info? 66).map (fun i => (i.zero, i.size)) = some (some (.agg #[.slice none 0 0, .bool false]), 2) := by kernel_rfl
  have WX0 := Lib.hid (show Box ((w1.alloc (.cells #[.int .u8 79, .int .u8 83, .int .u8 49] 5 (3, 4))).alloc (.cells #[.slice (some ⟨w1.heap.size, 0, none⟩) 3 3, .bool false] 66)) (w1.heap.size + 1) 66 #[.slice (some ⟨w1.heap.size, 0, none⟩) 3 3, .bool false] from Box.new' _ _ _ (by simp))
  have BL0 := Lib.hid (show Below w1.heap.size w1 ((w1.alloc (.cells #[.int .u8 79, .int .u8 83, .int .u8 49] 5 (3, 4))).alloc (.cells #[.slice (some ⟨w1.heap.size, 0, none⟩) 3 3, .bool false] 66)) from ((Below.refl _ _).alloc (Nat.le_refl _) _).alloc (by simp) _)
  have WC0 := Lib.hid (show ∀ j (hj : j < 3), ((w1.alloc (.cells #[.int .u8 79, .int .u8 83, .int .u8 49] 5 (3, 4))).alloc (.cells #[.slice (some ⟨w1.heap.size, 0, none⟩) 3 3, .bool false] 66)).cell? ⟨w1.heap.size, j, none⟩ = (#[Value.int .u8 79, .int .u8 83, .int .u8 49] : Array Value)[j]? from fun j hj => by
    rw [World.cell?_alloc_lt _ _ _ (by simp)]
    exact World.cell?_alloc_mark w1 _ _ _ _)
  have Y0 := Lib.hid (X1.out.below BL0.out X1.out.lt)
  obtain ⟨x0, x1, x2, x3, x4⟩ := box5 Y0.out
  go_wp2_with fail
  refine (HN.out _).mono ?_
  rintro e w2 ⟨rfl, hb2⟩
  have hl1 : w1.heap.size < w2.heap.size := Nat.lt_of_lt_of_le (by simp; omega) hb2.size
  have WX2 := Lib.hid (WX0.out.below hb2 WX0.out.lt)
  have WC2 := Lib.hid (fun j hj => (hb2.cell (p := ⟨w1.heap.size, j, none⟩) (by first | (simp; done) | (simp; omega))).trans (WC0.out j hj))
  have BL2 := Lib.hid (BL0.out.trans (hb2.mono BL0.out.size))
  clear hb2 WX0 WC0 BL0 Y0 x0 x1 x2 x3 x4 kc
  go_wp2_with fail
  refine (iPutFirst w1.heap.size (w1.heap.size + 1) w1.heap.size P1 w2 (by omega) WX2.out (WC2.out 0 (by omega)) (WC2.out 1 (by omega)) (WC2.out 2 (by omega)) zq (by omega)).mono ?_
  rintro e w3 ⟨rfl, hW, hb3⟩
  have W3 := Lib.hid hW
  have BL3 := Lib.hid (BL2.out.trans hb3)
  have Y3 := Lib.hid (X1.out.below BL3.out X1.out.lt)
  clear hW hb3 WX2 WC2 BL2
  have x2 := Y3.out.cell 2
  simp at x2
  have hz34 := Z4.out
  have HCC : Hid (∀ (α : Option Addr) (n c : Nat), T.length = n → Rows typeS Any w1 α T → Calls Tryz.prog 46 #[.pointer (some ⟨w1.heap.size + 1, 0, none⟩), .slice α n c, .int .i64 21, .func (.func 47) #[] #[]] w3 fun e w' => e = .returned (.tuple #[]) ∧ Wr w1.heap.size (w1.heap.size + 1) w' (headF ++ P1 ++ P2) false ∧ Below w1.heap.size w1 w') := Lib.hid fun α n c hn hR => by
    subst hn
    exact HET.out w1 (w1.heap.size + 1) α c w3 _ W3.out BL3.out hz34.1 hR
  have HC0 := Lib.hid (show s.fTypes.length = 3 → _ from fun h => HCC.out (some ⟨tb, to, none⟩) 0 0 (by omega) (fun i hi => by omega))
  have HC1 := Lib.hid (HCC.out _ _ (s.fTypes.length - 3) hdl R2.out)
  go_wp2_with fail
  · refine (HC0.out (by assumption)).mono ?_
    rintro e w4 ⟨rfl, hW, hb4⟩
    have W4 := Lib.hid hW
    have BL4 := Lib.hid hb4
    have Y4 := Lib.hid (X1.out.below BL4.out X1.out.lt)
    clear hW hb4 x2 HC0 HC1 HCC
    have x3 := Y4.out.cell 3
    simp at x3
    go_wp2_with fail
    refine (HEO.out w1 (w1.heap.size + 1) a3 _ w4 _ W4.out BL4.out hz34.2 RO.out).mono ?_
    rintro e w5 ⟨rfl, hW, hb5⟩
    have W5 := Lib.hid (show Wr w1.heap.size (w1.heap.size + 1) w5 FP false by rw [Fin.out]; exact hW)
    have BL5 := Lib.hid hb5
    clear hW hb5 x3
    obtain ⟨va, vc, c0, kcv⟩ := W5.out.open
    go_wp2_with fail
    refine (HSum.out _).mono ?_
    rintro e w6 ⟨rfl, hb6⟩
    have W6 := Lib.hid (W5.out.below hb6)
    have BL6 := Lib.hid (BL5.out.trans (hb6.mono BL5.out.size))
    clear hb6 c0 kcv
    go_wp2_with fail
    refine (iPut w1.heap.size (w1.heap.size + 1) SP true w6 FP false W6.out (by omega)).mono ?_
    rintro e w7 ⟨rfl, hW, hb7, _⟩
    have W7 := Lib.hid (show Wr w1.heap.size (w1.heap.size + 1) w7 FZ (!true) by rw [Fin2.out]; exact hW)
    have BL7 := Lib.hid (BL6.out.trans hb7)
    have hfz : FZ.size = FP.size + 2 := by rw [Fin2.out, ByteArray.size_append]; omega
    clear hW hb7
    obtain ⟨va, vc, c0, kcv⟩ := W7.out.open
    have BB := Lib.hid (B1.out.trans (BL7.out.mono B1.out.size))
    by_cases hle : FZ.size ≤ 3000
    · have hi1 : ¬ (3000 : Int) < (FZ.size : Int) := by omega
      have HA2 := Lib.hid (HA.out hle)
      clear kcv
      go_wp2_with fail
      refine (iWhole_ok _ _ _ _ W7.out).mono ?_
      rintro e w8 ⟨rfl, hb8⟩
      have B8 := Lib.hid (BB.out.trans (hb8.mono BB.out.size))
      clear hb8 c0
      go_wp2_with fail
      go_ret2
      exact ⟨by rw [HA2.out.1, HA2.out.2]; rfl, B8.out⟩
    · have hi1 : (3000 : Int) < (FZ.size : Int) := by omega
      have HA2 := Lib.hid (HAn.out hle)
      clear kcv
      go_wp2_with fail
      go_ret2
      exact ⟨by rw [HA2.out.1, HA2.out.2]; rfl, BB.out⟩
  · refine HC1.out.mono ?_
    rintro e w4 ⟨rfl, hW, hb4⟩
    have W4 := Lib.hid hW
    have BL4 := Lib.hid hb4
    have Y4 := Lib.hid (X1.out.below BL4.out X1.out.lt)
    clear hW hb4 x2 HC0 HC1 HCC
    have x3 := Y4.out.cell 3
    simp at x3
    go_wp2_with fail
    refine (HEO.out w1 (w1.heap.size + 1) a3 _ w4 _ W4.out BL4.out hz34.2 RO.out).mono ?_
    rintro e w5 ⟨rfl, hW, hb5⟩
    have W5 := Lib.hid (show Wr w1.heap.size (w1.heap.size + 1) w5 FP false by rw [Fin.out]; exact hW)
    have BL5 := Lib.hid hb5
    clear hW hb5 x3
    obtain ⟨va, vc, c0, kcv⟩ := W5.out.open
    go_wp2_with fail
    refine (HSum.out _).mono ?_
    rintro e w6 ⟨rfl, hb6⟩
    have W6 := Lib.hid (W5.out.below hb6)
    have BL6 := Lib.hid (BL5.out.trans (hb6.mono BL5.out.size))
    clear hb6 c0 kcv
    go_wp2_with fail
    refine (iPut w1.heap.size (w1.heap.size + 1) SP true w6 FP false W6.out (by omega)).mono ?_
    rintro e w7 ⟨rfl, hW, hb7, _⟩
    have W7 := Lib.hid (show Wr w1.heap.size (w1.heap.size + 1) w7 FZ (!true) by rw [Fin2.out]; exact hW)
    have BL7 := Lib.hid (BL6.out.trans hb7)
    have hfz : FZ.size = FP.size + 2 := by rw [Fin2.out, ByteArray.size_append]; omega
    clear hW hb7
    obtain ⟨va, vc, c0, kcv⟩ := W7.out.open
    have BB := Lib.hid (B1.out.trans (BL7.out.mono B1.out.size))
    by_cases hle : FZ.size ≤ 3000
    · have hi1 : ¬ (3000 : Int) < (FZ.size : Int) := by omega
      have HA2 := Lib.hid (HA.out hle)
      clear kcv
      go_wp2_with fail
      refine (iWhole_ok _ _ _ _ W7.out).mono ?_
      rintro e w8 ⟨rfl, hb8⟩
      have B8 := Lib.hid (BB.out.trans (hb8.mono BB.out.size))
      clear hb8 c0
      go_wp2_with fail
      go_ret2
      exact ⟨by rw [HA2.out.1, HA2.out.2]; rfl, B8.out⟩
    · have hi1 : (3000 : Int) < (FZ.size : Int) := by omega
      have HA2 := Lib.hid (HAn.out hle)
      clear kcv
      go_wp2_with fail
      go_ret2
      exact ⟨by rw [HA2.out.1, HA2.out.2]; rfl, BB.out⟩
-- shell: FnExactFileBytes
set_option maxRecDepth 100000 in
set_option maxHeartbeats 8000000 in
theorem law_FnExactFileBytes (s : ScopeD) (a1 a2 a3 a4 : Option Addr) (c1 c2 c3 c4 : Nat) (w : World) (hin : ScopeR Any w a1 a2 a3 a4 s ∧ s.came) :
    Calls Tryz.prog 4 #[.agg (scopeC s a1 a2 a3 a4 c1 c2 c3 c4)] w fun e w' => e = .returned (.bool true) ∧ Below w.heap.size w w' := by
  obtain ⟨hr, hc⟩ := hin
  have B0 := Lib.hid ((Below.refl w.heap.size w).alloc (Nat.le_refl _) (.cells (scopeC s a1 a2 a3 a4 c1 c2 c3 c4) 27))
  have X0 := Lib.hid (Box.new w 27 (scopeC s a1 a2 a3 a4 c1 c2 c3 c4))
  have R0 := Lib.hid (hr.below B0.out)
  have Hsz := Lib.hid (lSzScope s a1 a2 a3 a4 c1 c2 c3 c4 _ 1048576 (by omega) (by omega) hc R0.out)
  clear hr hc
  go_enter Tryz.func4, Tryz.ntmps4
  go_wp2_with fail
  refine Hsz.out.mono ?_
  rintro e w1 ⟨r, rfl, hs, hb1⟩
  have B1 := Lib.hid (B0.out.trans (hb1.mono B0.out.size))
  have X1 := Lib.hid (X0.out.below hb1 X0.out.lt)
  have R1 := Lib.hid (R0.out.below hb1)
  clear hb1 Hsz
  rcases hs with rfl | ⟨h0, h1⟩
  · go_wp2_with fail
    go_ret
    exact ⟨rfl, B1.out⟩
  have K := Lib.hid (ScopeK.of (s := s) (by omega))
  clear h1
  obtain ⟨x0, x1, x2, x3, x4⟩ := box5 X1.out
  go_wp2_with fail
  clear x0 x1 x2 x3 x4
  refine (lToScope s a1 a2 a3 a4 c1 c2 c3 c4 w1 K.out.li K.out.lt K.out.tw K.out.lo K.out.ow K.out.lu R1.out).mono ?_
  rintro e w2 ⟨p1, p2, p3, p4, rfl, hp, hb2⟩
  have B2 := Lib.hid (B1.out.trans (hb2.mono B1.out.size))
  have X2 := Lib.hid (X1.out.below hb2 X1.out.lt)
  have R2 := Lib.hid (R1.out.below hb2)
  have P2 := Lib.hid hp.any
  clear hb2 hp
  go_wp2_with fail
  refine (sFileBytes s p1 p2 p3 p4 w2 K.out P2.out).mono ?_
  rintro e w3 ⟨rfl, hb3⟩
  have B3 := Lib.hid (B2.out.trans (hb3.mono B2.out.size))
  have X3 := Lib.hid (X2.out.below hb3 X2.out.lt)
  have R3 := Lib.hid (R2.out.below hb3)
  clear hb3 P2
  obtain ⟨x0, x1, x2, x3, x4⟩ := box5 X3.out
  go_wp2_with fail
  clear x0 x1 x2 x3 x4
  refine (lToScope s a1 a2 a3 a4 c1 c2 c3 c4 w3 K.out.li K.out.lt K.out.tw K.out.lo K.out.ow K.out.lu R3.out).mono ?_
  rintro e w4 ⟨q1, q2, q3, q4, rfl, hq, hb4⟩
  have B4 := Lib.hid ((B3.out.trans (hb4.mono B3.out.size)).alloc (B3.out.trans (hb4.mono B3.out.size)).size (.cells (scopeC s q1 q2 q3 q4 s.fImports.length s.fTypes.length s.fObjects.length s.fUses.length) 33))
  have X4 := Lib.hid ((X3.out.below hb4 X3.out.lt).alloc (.cells (scopeC s q1 q2 q3 q4 s.fImports.length s.fTypes.length s.fObjects.length s.fUses.length) 33))
  have Y4 := Lib.hid (Box.new w4 33 (scopeC s q1 q2 q3 q4 s.fImports.length s.fTypes.length s.fObjects.length s.fUses.length))
  have hal := (Below.refl w4.heap.size w4).alloc (Nat.le_refl _) (.cells (scopeC s q1 q2 q3 q4 s.fImports.length s.fTypes.length s.fObjects.length s.fUses.length) 33)
  have R4 := Lib.hid ((R3.out.below hb4).below hal)
  have Q4 := Lib.hid (hq.any.below hal)
  have hgo := iFileBytes s q1 q2 q3 q4 _ K.out Q4.out
  have Hgo := Lib.hid hgo
  clear hb4 hq hal hgo
  go_wp2_with fail
  refine Hgo.out.mono ?_
  rintro e w5 ⟨rfl, hb5⟩
  have B5 := Lib.hid (B4.out.trans (hb5.mono B4.out.size))
  have X5 := Lib.hid (X4.out.below hb5 X4.out.lt)
  have Y5 := Lib.hid (Y4.out.below hb5 Y4.out.lt)
  have R5 := Lib.hid (R4.out.below hb5).drew
  have Q5 := Lib.hid (Q4.out.below hb5).drew
  have g5 := Nat.lt_of_lt_of_le Y4.out.lt hb5.size
  have l5 := Nat.lt_of_lt_of_le X4.out.lt hb5.size
  clear hb5 Hgo
  generalize hgg : w4.heap.size = g at *
  have Hgg := Lib.hid hgg
  clear hgg
  have hbs := bytes_same (fileAns s) (fileAns s) true (by simp)
  generalize fileAns s = vs at *
  generalize fileB s = v at *
  cases v
  all_goals
    obtain ⟨x0, x1, x2, x3, x4⟩ := box5 X5.out
    obtain ⟨y0, y1, y2, y3, y4⟩ := box5 Y5.out
    go_wp2_with fail
    go_region_held3 (fun w' => w'.cell? ⟨w.heap.size, 0, none⟩ = some (.string s.fName) ∧ w'.cell? ⟨w.heap.size, 1, none⟩ = some (.slice a1 s.fImports.length c1) ∧ w'.cell? ⟨w.heap.size, 2, none⟩ = some (.slice a2 s.fTypes.length c2) ∧ w'.cell? ⟨w.heap.size, 3, none⟩ = some (.slice a3 s.fObjects.length c3) ∧ w'.cell? ⟨w.heap.size, 4, none⟩ = some (.slice a4 s.fUses.length c4) ∧ w'.cell? ⟨g, 0, none⟩ = some (.string s.fName) ∧ w'.cell? ⟨g, 1, none⟩ = some (.slice q1 s.fImports.length s.fImports.length) ∧ w'.cell? ⟨g, 2, none⟩ = some (.slice q2 s.fTypes.length s.fTypes.length) ∧ w'.cell? ⟨g, 3, none⟩ = some (.slice q3 s.fObjects.length s.fObjects.length) ∧ w'.cell? ⟨g, 4, none⟩ = some (.slice q4 s.fUses.length s.fUses.length))
      (first
        | exact ⟨x0, x1, x2, x3, x4, y0, y1, y2, y3, y4⟩
        | go_keep
        | (go_split_ands
           refine ⟨?_, ?_, ?_, ?_, ?_, ?_, ?_, ?_, ?_, ?_⟩ <;> (rw [hbu.cell (by simp at *; omega)]; assumption))
        | (go_split_ands
           refine ⟨?_, ?_, ?_, ?_, ?_, ?_, ?_, ?_, ?_, ?_⟩ <;> (rw [hbt.cell (by simp at *; omega)]; assumption)))
      (first
        | (go_at_call 8; refine (lToScope s a1 a2 a3 a4 c1 c2 c3 c4 _ K.out.li K.out.lt K.out.tw K.out.lo K.out.ow K.out.lu R5.out).mono ?_; rintro e wt ⟨t1, t2, t3, t4, rfl, ht, hbt⟩; have hsz := hbt.size)
        | (go_at_call 10; refine (lEqScope s q1 q2 q3 q4 t1 t2 t3 t4 _ _ _ _ _ _ _ _ _ K.out.li K.out.lt K.out.tw K.out.lo K.out.ow K.out.lu (Q5.out.below hbt) ht.any).mono ?_; rintro e wu ⟨rfl, hbu⟩))
    have B6 := Lib.hid ((belowN B5.out 1).trans ((hbt.trans (hbu.mono hbt.size)).mono (belowN B5.out 1).size))
    clear x0 x1 x2 x3 x4 y0 y1 y2 y3 y4
    go_wp2_with fail
    go_ret
    exact ⟨rfl, B6.out⟩
end Go.Proofs.YtaccifjkeblhpaaGreat
