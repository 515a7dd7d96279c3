
/-
  What is proved: the contract of the model's l7Object. No condition beside what each theorem states.
-/
import Derived.Test.YtaccifjkeblhpaaGreatFits
namespace Go.Proofs.YtaccifjkeblhpaaGreat
open Go.ChangeShapes Go.WideShapes Go.ChangeAt Go.RowKit
set_option maxRecDepth 100000

theorem once7 {S G : Prop} (heavy : S) (rest : S → G) : G := rest heavy
theorem conv_box2 {W : World} {g : Nat} {x y : Int} (h : Box W g 5 #[.int .u8 x, .int .u8 y]) : (convert 64 9 (.slice (some ⟨g, 0, none⟩) 2 2)).run Tryz.prog W = .ok (.string (strOfNums [x, y])) W :=
  run_convert_bytes_arg _ 64 5 Tryz.underlying64 Tryz.underlying5 g 0 2 2 [x, y] rfl (fun i hi => by
    rw [Nat.zero_add, h.cell]
    match i, hi with
    | 0, _ | 1, _ => rfl
    | n + 2, h => omega) 9 Tryz.underlying9
theorem conv2a (W : World) (x y : Int) : (convert 64 9 (.slice (some ⟨W.heap.size, 0, none⟩) 2 2)).run Tryz.prog (W.alloc (.cells #[.int .u8 x, .int .u8 y] 5)) = .ok (.string (strOfNums [x, y])) (W.alloc (.cells #[.int .u8 x, .int .u8 y] 5)) := conv_box2 (Box.new _ _ _)
theorem conv2b (W : World) (x y : Int) : (convert 64 9 (.slice (some ⟨W.heap.size, 0, none⟩) 2 2)).run Tryz.prog (W.alloc (.cells #[.int .u8 x, .int .u8 y] 5)).drew = .ok (.string (strOfNums [x, y])) (W.alloc (.cells #[.int .u8 x, .int .u8 y] 5)).drew := conv_box2 (show Box (World.drew _) _ _ _ from Box.new _ _ _)
theorem wrap8 (n : Int) : IntKind.u8.wrap n = n % 256 := by simp [IntKind.wrap, IntKind.signed, IntKind.bits]
theorem strOf_two (x y : Int) : strOfNums [x, y] = strOfNums [x] ++ strOfNums [y] := by
  apply ByteArray.ext
  simp [strOfNums]
theorem cell_a1 {w : World} {p : Addr} {v : Value} {o : Obj} (h : w.cell? p = some v) : (w.alloc o).cell? p = some v := (World.cell?_alloc_lt _ _ p (World.block_lt_of_cell? _ _ h)).trans h
theorem cell_a2 {w : World} {p : Addr} {v : Value} {o : Obj} (h : w.cell? p = some v) : ((w.alloc o).drew).cell? p = some v := cell_a1 h
theorem cell_d {w : World} {p : Addr} {v : Value} (h : w.cell? p = some v) : (w.drew).cell? p = some v := h
theorem cell_b {W wc : World} {p : Addr} {v : Value} (hb : Below W.heap.size W wc) (h : W.cell? p = some v) : wc.cell? p = some v := (hb.cell (World.block_lt_of_cell? _ _ h)).trans h
theorem below_d {B : Nat} {w w' : World} (h : Below B w w') : Below B w w'.drew := ⟨h.os, h.tape, h.output, h.size, h.block⟩

/-- What stays in the midst. -/
def ObjHeld (w : World) (t : ObjectD) (a : Option Addr) (c : Nat) (w' : World) : Prop :=
  w'.cell? ⟨w.heap.size, 0, none⟩ = some (.string t.fName) ∧ w'.cell? ⟨w.heap.size, 1, none⟩ = some (.int .i64 t.fKind) ∧ w'.cell? ⟨w.heap.size, 2, none⟩ = some (.int .i64 t.fMark) ∧ w'.cell? ⟨w.heap.size, 3, none⟩ = some (.int .i64 t.fType) ∧ w'.cell? ⟨w.heap.size, 4, none⟩ = some (.int .i64 t.fValue) ∧ w'.cell? ⟨w.heap.size, 5, none⟩ = some (.slice a t.fParams.length c) ∧ Below w.heap.size w w'
theorem ObjHeld.alloc {w w' : World} {t : ObjectD} {a : Option Addr} {c : Nat} (h : ObjHeld w t a c w') (o : Obj) : ObjHeld w t a c (w'.alloc o) := by
  obtain ⟨h0, h1, h2, h3, h4, h5, h6⟩ := h
  exact ⟨cell_a1 h0, cell_a1 h1, cell_a1 h2, cell_a1 h3, cell_a1 h4, cell_a1 h5, h6.alloc h6.size o⟩
theorem ObjHeld.drew {w w' : World} {t : ObjectD} {a : Option Addr} {c : Nat} (h : ObjHeld w t a c w') : ObjHeld w t a c w'.drew := by
  obtain ⟨h0, h1, h2, h3, h4, h5, h6⟩ := h
  exact ⟨h0, h1, h2, h3, h4, h5, below_d h6⟩
theorem ObjHeld.below {w w' w'' : World} {t : ObjectD} {a : Option Addr} {c : Nat} (h : ObjHeld w t a c w') (hb : Below w'.heap.size w' w'') : ObjHeld w t a c w'' := by
  obtain ⟨h0, h1, h2, h3, h4, h5, h6⟩ := h
  exact ⟨cell_b hb h0, cell_b hb h1, cell_b hb h2, cell_b hb h3, cell_b hb h4, cell_b hb h5, h6.trans (hb.mono h6.size)⟩

set_option maxHeartbeats 16000000 in
theorem sl7Object (t : ObjectD) (a : Option Addr) (c : Nat) (w : World) (hr : Rows paramS Any w a t.fParams) (hok : fobjB t = true) :
    Calls Tryz.prog 93 #[.agg #[.string t.fName, .int .i64 t.fKind, .int .i64 t.fMark, .int .i64 t.fType, .int .i64 t.fValue, .slice a t.fParams.length c]] w fun e w' => e = .returned (.string (objPart t)) ∧ Below w.heap.size w w' := by
  have hok2 := hok
  unfold fobjB at hok2
  simp only [Bool.and_eq_true] at hok2
  obtain ⟨_, _, k3, k4, k5, k6⟩ := hok2
  have wt : wholeN t.fType := by unfold numIn at k4; simp only [Bool.and_eq_true, decide_eq_true_eq] at k4; exact k4.1.1
  have wv : wholeN t.fValue := by simpa using k5
  unfold eachB at k6
  simp only [Bool.and_eq_true, decide_eq_true_eq] at k6
  obtain ⟨⟨⟨wl, _⟩, hl4⟩, hall⟩ := k6
  have Hall := Lib.hid hall
  have Hr := Lib.hid hr
  have H1 := Lib.hid (fun W => sNameB7 t.fName W k3)
  have W2 := Lib.hid wt
  have W3 := Lib.hid wv
  have W4 := Lib.hid wl
  have OH := Lib.hid (show ObjHeld w t a c (w.alloc (.cells #[.string t.fName, .int .i64 t.fKind, .int .i64 t.fMark, .int .i64 t.fType, .int .i64 t.fValue, .slice a t.fParams.length c] 78)) from ⟨(Box.new _ _ _).cell 0, (Box.new _ _ _).cell 1, (Box.new _ _ _).cell 2, (Box.new _ _ _).cell 3, (Box.new _ _ _).cell 4, (Box.new _ _ _).cell 5, (Below.refl _ _).alloc (Nat.le_refl _) _⟩)
  clear k3 k4 k5 hall hr hok wt wv wl
  have Fin := Lib.hid (show objPart t = strOfNums [IntKind.u8.wrap t.fKind, IntKind.u8.wrap t.fMark] ++ namePart t.fName ++ numPart t.fType ++ numPart t.fValue ++ numPart (t.fParams.length : Int) ++ catP paramPart t.fParams by
    unfold objPart eachPart byteB
    rw [wrap8, wrap8, strOf_two, ba_assoc, ba_assoc, ba_assoc, ba_assoc, ba_assoc])
  have z1 := namePart_size t.fName
  have z2 := numPart_size t.fType
  have z3 := numPart_size t.fValue
  have z4 := numPart_size (t.fParams.length : Int)
  have zA : (strOfNums [IntKind.u8.wrap t.fKind, IntKind.u8.wrap t.fMark]).size = 2 := by rw [strOfNums_size]; rfl
  have H2 := Lib.hid (fun W => sNum7 t.fType W W2.out)
  have H3 := Lib.hid (fun W => sNum7 t.fValue W W3.out)
  have H4 := Lib.hid (fun W => sNum7 (t.fParams.length : Int) W W4.out)
  have KB := Lib.hid (fun W g (h : Box W g 5 #[.int .u8 (IntKind.u8.wrap t.fKind), .int .u8 (IntKind.u8.wrap t.fMark)]) => conv_box2 h)
  generalize strOfNums [IntKind.u8.wrap t.fKind, IntKind.u8.wrap t.fMark] = PA at *
  generalize namePart t.fName = P1 at *
  generalize numPart t.fType = P2 at *
  generalize numPart t.fValue = P3 at *
  generalize numPart (t.fParams.length : Int) = P4 at *
  have hz1 : ¬ 9223372036854775807 < PA.size + P1.size := by omega
  have hz2 : ¬ 9223372036854775807 < PA.size + P1.size + P2.size := by omega
  have hz3 : ¬ 9223372036854775807 < PA.size + P1.size + P2.size + P3.size := by omega
  have hz4 : ¬ 9223372036854775807 < PA.size + P1.size + P2.size + P3.size + P4.size := by omega
  have ZZ := Lib.hid (And.intro zA (And.intro z1 (And.intro z2 (And.intro z3 z4))))
  clear zA z1 z2 z3 z4
  go_enter Tryz.func93, Tryz.ntmps93
  go_wp2_with fail
  generalize w.alloc (.cells #[.string t.fName, .int .i64 t.fKind, .int .i64 t.fMark, .int .i64 t.fType, .int .i64 t.fValue, .slice a t.fParams.length c] 78) = wq at *
  -- walk
  apply once7
  case rest =>
    intro key0
    have key := Lib.hid key0
    clear key0
    refine wp_region_held_drew (S := ObjHeld w t a c) (by kernel_rfl) ?_ (fun hHeld => ?_)
    · exact OH.out.drew
    replace OH := Lib.hid OH.out.drew
    generalize wq.drew = wd at *
    refine tkP (i := 0) (v := .pointer (some ⟨w.heap.size, 1, none⟩)) rfl ?_
    try simp only [Act.put, pA, pB, pC]
    refine tkC (i := 1) (v := .int .i64 t.fKind) rfl (Or.inl ⟨by rfl, ?_⟩) ?_
    · intro wS hSw
      obtain ⟨h0, h1, h2, h3, h4, h5, h6⟩ := hSw
      go_simp
    try simp only [Act.put, pA, pB, pC]
    refine tkP (i := 2) (v := .int .u8 (IntKind.u8.wrap t.fKind)) rfl ?_
    try simp only [Act.put, pA, pB, pC]
    refine tkP (i := 3) (v := .pointer (some ⟨w.heap.size, 2, none⟩)) rfl ?_
    try simp only [Act.put, pA, pB, pC]
    refine tkC (i := 4) (v := .int .i64 t.fMark) rfl (Or.inl ⟨by rfl, ?_⟩) ?_
    · intro wS hSw
      obtain ⟨h0, h1, h2, h3, h4, h5, h6⟩ := hSw
      go_simp
    try simp only [Act.put, pA, pB, pC]
    refine tkP (i := 5) (v := .int .u8 (IntKind.u8.wrap t.fMark)) rfl ?_
    try simp only [Act.put, pA, pB, pC]
    refine tkP (i := 8) (v := .pointer (some ⟨w.heap.size, 0, none⟩)) rfl ?_
    try simp only [Act.put, pA, pB, pC]
    refine tkC (i := 9) (v := .string t.fName) rfl (Or.inl ⟨by rfl, ?_⟩) ?_
    · intro wS hSw
      obtain ⟨h0, h1, h2, h3, h4, h5, h6⟩ := hSw
      go_simp
    try simp only [Act.put, pA, pB, pC]
    refine tkP (i := 12) (v := .pointer (some ⟨w.heap.size, 3, none⟩)) rfl ?_
    try simp only [Act.put, pA, pB, pC]
    refine tkC (i := 13) (v := .int .i64 t.fType) rfl (Or.inl ⟨by rfl, ?_⟩) ?_
    · intro wS hSw
      obtain ⟨h0, h1, h2, h3, h4, h5, h6⟩ := hSw
      go_simp
    try simp only [Act.put, pA, pB, pC]
    refine tkP (i := 16) (v := .pointer (some ⟨w.heap.size, 4, none⟩)) rfl ?_
    try simp only [Act.put, pA, pB, pC]
    refine tkC (i := 17) (v := .int .i64 t.fValue) rfl (Or.inl ⟨by rfl, ?_⟩) ?_
    · intro wS hSw
      obtain ⟨h0, h1, h2, h3, h4, h5, h6⟩ := hSw
      go_simp
    try simp only [Act.put, pA, pB, pC]
    refine tkP (i := 20) (v := .pointer (some ⟨w.heap.size, 5, none⟩)) rfl ?_
    try simp only [Act.put, pA, pB, pC]
    refine tkC (i := 21) (v := .slice a t.fParams.length c) rfl (Or.inl ⟨by rfl, ?_⟩) ?_
    · intro wS hSw
      obtain ⟨h0, h1, h2, h3, h4, h5, h6⟩ := hSw
      go_simp
    try simp only [Act.put, pA, pB, pC]
    refine tkP (i := 22) (v := .int .i64 (t.fParams.length : Int)) rfl ?_
    try simp only [Act.put, pA, pB, pC]
    refine wpAnyH_ready (rs := [6, 10]) (by kernel_rfl) (by simp) ?_
    refine rdC rfl (fun K hK => ?_) (rdC rfl (fun K hK => ?_) AllReadyH.nil)
    · go_simp
      replace OH := Lib.hid (OH.out.alloc (.cells #[.int .u8 (IntKind.u8.wrap t.fKind), .int .u8 (IntKind.u8.wrap t.fMark)] 5))
      have BX := Lib.hid (Box.new wd 5 #[.int .u8 (IntKind.u8.wrap t.fKind), .int .u8 (IntKind.u8.wrap t.fMark)])
      obtain ⟨gx, hgx⟩ : ∃ z, z = wd.heap.size := ⟨_, rfl⟩
      rw [← hgx] at BX
      rw [← hgx]
      clear hgx
      generalize wd.alloc (.cells #[.int .u8 (IntKind.u8.wrap t.fKind), .int .u8 (IntKind.u8.wrap t.fMark)] 5) = wa at *
      refine hK.out _ _ ?_ (fun hHeld2 => ?_)
      · exact OH.out
      clear hK K hHeld
      have hHeld := hHeld2
      clear hHeld2
      try simp only [Act.put, pA, pB, pC]
      refine wpAnyH_ready (rs := [7, 10]) (by kernel_rfl) (by simp) ?_
      refine rdC rfl (fun K hK => ?_) (rdC rfl (fun K hK => ?_) AllReadyH.nil)
      · have kv := KB.out _ _ BX.out
        go_simp
        clear kv BX
        refine hK.out _ _ ?_ (fun hHeld2 => ?_)
        · exact OH.out
        clear hK K hHeld
        have hHeld := hHeld2
        clear hHeld2
        try simp only [Act.put, pA, pB, pC]
        refine wpAnyH_ready (rs := [10]) (by kernel_rfl) (by simp) ?_
        refine rdC rfl (fun K hK => ?_) AllReadyH.nil
        go_simp
        go_at_call 90
        refine (H1.out _).mono ?_
        rintro e wc0 ⟨rfl, hbc⟩
        replace OH := Lib.hid (OH.out.below hbc)
        clear hbc
        refine hK.out _ _ ?_ (fun hHeld2 => ?_)
        · exact OH.out
        clear hK K hHeld
        have hHeld := hHeld2
        clear hHeld2
        try simp only [Act.put, pA, pB, pC]
        refine tkP (i := 11) (v := .string (PA ++ P1)) rfl ?_
        try simp only [Act.put, pA, pB, pC]
        refine wpAnyH_ready (rs := [14]) (by kernel_rfl) (by simp) ?_
        refine rdC rfl (fun K hK => ?_) AllReadyH.nil
        go_simp
        go_at_call 91
        refine (H2.out _).mono ?_
        rintro e wc1 ⟨rfl, hbc⟩
        replace OH := Lib.hid (OH.out.below hbc)
        clear hbc
        refine hK.out _ _ ?_ (fun hHeld2 => ?_)
        · exact OH.out
        clear hK K hHeld
        have hHeld := hHeld2
        clear hHeld2
        try simp only [Act.put, pA, pB, pC]
        refine tkP (i := 15) (v := .string (PA ++ P1 ++ P2)) rfl ?_
        try simp only [Act.put, pA, pB, pC]
        refine wpAnyH_ready (rs := [18]) (by kernel_rfl) (by simp) ?_
        refine rdC rfl (fun K hK => ?_) AllReadyH.nil
        go_simp
        go_at_call 91
        refine (H3.out _).mono ?_
        rintro e wc2 ⟨rfl, hbc⟩
        replace OH := Lib.hid (OH.out.below hbc)
        clear hbc
        refine hK.out _ _ ?_ (fun hHeld2 => ?_)
        · exact OH.out
        clear hK K hHeld
        have hHeld := hHeld2
        clear hHeld2
        try simp only [Act.put, pA, pB, pC]
        refine tkP (i := 19) (v := .string (PA ++ P1 ++ P2 ++ P3)) rfl ?_
        try simp only [Act.put, pA, pB, pC]
        refine wpAnyH_ready (rs := [23]) (by kernel_rfl) (by simp) ?_
        refine rdC rfl (fun K hK => ?_) AllReadyH.nil
        go_simp
        go_at_call 91
        refine (H4.out _).mono ?_
        rintro e wc3 ⟨rfl, hbc⟩
        replace OH := Lib.hid (OH.out.below hbc)
        clear hbc
        refine hK.out _ _ ?_ (fun hHeld2 => ?_)
        · exact OH.out
        clear hK K hHeld
        have hHeld := hHeld2
        clear hHeld2
        try simp only [Act.put, pA, pB, pC]
        refine tkP (i := 24) (v := .string (PA ++ P1 ++ P2 ++ P3 ++ P4)) rfl ?_
        try simp only [Act.put, pA, pB, pC]
        refine tkP (i := 25) (v := .string (PA ++ P1 ++ P2 ++ P3 ++ P4)) rfl ?_
        try simp only [Act.put, pA, pB, pC]
        refine wpAnyH_done (by kernel_rfl) ?_ _
        clear hHeld
        revert OH
        revert wc3
        revert gx
        exact key.out
      · go_simp
        go_at_call 90
        refine (H1.out _).mono ?_
        rintro e wc0 ⟨rfl, hbc⟩
        replace OH := Lib.hid (OH.out.below hbc)
        replace BX := Lib.hid (BX.out.below hbc BX.out.lt)
        clear hbc
        refine hK.out _ _ ?_ (fun hHeld2 => ?_)
        · exact OH.out
        clear hK K hHeld
        have hHeld := hHeld2
        clear hHeld2
        try simp only [Act.put, pA, pB, pC]
        refine wpAnyH_ready (rs := [7, 14]) (by kernel_rfl) (by simp) ?_
        refine rdC rfl (fun K hK => ?_) (rdC rfl (fun K hK => ?_) AllReadyH.nil)
        · have kv := KB.out _ _ BX.out
          go_simp
          clear kv BX
          refine hK.out _ _ ?_ (fun hHeld2 => ?_)
          · exact OH.out
          clear hK K hHeld
          have hHeld := hHeld2
          clear hHeld2
          try simp only [Act.put, pA, pB, pC]
          refine tkP (i := 11) (v := .string (PA ++ P1)) rfl ?_
          try simp only [Act.put, pA, pB, pC]
          refine wpAnyH_ready (rs := [14]) (by kernel_rfl) (by simp) ?_
          refine rdC rfl (fun K hK => ?_) AllReadyH.nil
          go_simp
          go_at_call 91
          refine (H2.out _).mono ?_
          rintro e wc1 ⟨rfl, hbc⟩
          replace OH := Lib.hid (OH.out.below hbc)
          clear hbc
          refine hK.out _ _ ?_ (fun hHeld2 => ?_)
          · exact OH.out
          clear hK K hHeld
          have hHeld := hHeld2
          clear hHeld2
          try simp only [Act.put, pA, pB, pC]
          refine tkP (i := 15) (v := .string (PA ++ P1 ++ P2)) rfl ?_
          try simp only [Act.put, pA, pB, pC]
          refine wpAnyH_ready (rs := [18]) (by kernel_rfl) (by simp) ?_
          refine rdC rfl (fun K hK => ?_) AllReadyH.nil
          go_simp
          go_at_call 91
          refine (H3.out _).mono ?_
          rintro e wc2 ⟨rfl, hbc⟩
          replace OH := Lib.hid (OH.out.below hbc)
          clear hbc
          refine hK.out _ _ ?_ (fun hHeld2 => ?_)
          · exact OH.out
          clear hK K hHeld
          have hHeld := hHeld2
          clear hHeld2
          try simp only [Act.put, pA, pB, pC]
          refine tkP (i := 19) (v := .string (PA ++ P1 ++ P2 ++ P3)) rfl ?_
          try simp only [Act.put, pA, pB, pC]
          refine wpAnyH_ready (rs := [23]) (by kernel_rfl) (by simp) ?_
          refine rdC rfl (fun K hK => ?_) AllReadyH.nil
          go_simp
          go_at_call 91
          refine (H4.out _).mono ?_
          rintro e wc3 ⟨rfl, hbc⟩
          replace OH := Lib.hid (OH.out.below hbc)
          clear hbc
          refine hK.out _ _ ?_ (fun hHeld2 => ?_)
          · exact OH.out
          clear hK K hHeld
          have hHeld := hHeld2
          clear hHeld2
          try simp only [Act.put, pA, pB, pC]
          refine tkP (i := 24) (v := .string (PA ++ P1 ++ P2 ++ P3 ++ P4)) rfl ?_
          try simp only [Act.put, pA, pB, pC]
          refine tkP (i := 25) (v := .string (PA ++ P1 ++ P2 ++ P3 ++ P4)) rfl ?_
          try simp only [Act.put, pA, pB, pC]
          refine wpAnyH_done (by kernel_rfl) ?_ _
          clear hHeld
          revert OH
          revert wc3
          revert gx
          exact key.out
        · go_simp
          go_at_call 91
          refine (H2.out _).mono ?_
          rintro e wc1 ⟨rfl, hbc⟩
          replace OH := Lib.hid (OH.out.below hbc)
          replace BX := Lib.hid (BX.out.below hbc BX.out.lt)
          clear hbc
          refine hK.out _ _ ?_ (fun hHeld2 => ?_)
          · exact OH.out
          clear hK K hHeld
          have hHeld := hHeld2
          clear hHeld2
          try simp only [Act.put, pA, pB, pC]
          refine wpAnyH_ready (rs := [7, 18]) (by kernel_rfl) (by simp) ?_
          refine rdC rfl (fun K hK => ?_) (rdC rfl (fun K hK => ?_) AllReadyH.nil)
          · have kv := KB.out _ _ BX.out
            go_simp
            clear kv BX
            refine hK.out _ _ ?_ (fun hHeld2 => ?_)
            · exact OH.out
            clear hK K hHeld
            have hHeld := hHeld2
            clear hHeld2
            try simp only [Act.put, pA, pB, pC]
            refine tkP (i := 11) (v := .string (PA ++ P1)) rfl ?_
            try simp only [Act.put, pA, pB, pC]
            refine tkP (i := 15) (v := .string (PA ++ P1 ++ P2)) rfl ?_
            try simp only [Act.put, pA, pB, pC]
            refine wpAnyH_ready (rs := [18]) (by kernel_rfl) (by simp) ?_
            refine rdC rfl (fun K hK => ?_) AllReadyH.nil
            go_simp
            go_at_call 91
            refine (H3.out _).mono ?_
            rintro e wc2 ⟨rfl, hbc⟩
            replace OH := Lib.hid (OH.out.below hbc)
            clear hbc
            refine hK.out _ _ ?_ (fun hHeld2 => ?_)
            · exact OH.out
            clear hK K hHeld
            have hHeld := hHeld2
            clear hHeld2
            try simp only [Act.put, pA, pB, pC]
            refine tkP (i := 19) (v := .string (PA ++ P1 ++ P2 ++ P3)) rfl ?_
            try simp only [Act.put, pA, pB, pC]
            refine wpAnyH_ready (rs := [23]) (by kernel_rfl) (by simp) ?_
            refine rdC rfl (fun K hK => ?_) AllReadyH.nil
            go_simp
            go_at_call 91
            refine (H4.out _).mono ?_
            rintro e wc3 ⟨rfl, hbc⟩
            replace OH := Lib.hid (OH.out.below hbc)
            clear hbc
            refine hK.out _ _ ?_ (fun hHeld2 => ?_)
            · exact OH.out
            clear hK K hHeld
            have hHeld := hHeld2
            clear hHeld2
            try simp only [Act.put, pA, pB, pC]
            refine tkP (i := 24) (v := .string (PA ++ P1 ++ P2 ++ P3 ++ P4)) rfl ?_
            try simp only [Act.put, pA, pB, pC]
            refine tkP (i := 25) (v := .string (PA ++ P1 ++ P2 ++ P3 ++ P4)) rfl ?_
            try simp only [Act.put, pA, pB, pC]
            refine wpAnyH_done (by kernel_rfl) ?_ _
            clear hHeld
            revert OH
            revert wc3
            revert gx
            exact key.out
          · go_simp
            go_at_call 91
            refine (H3.out _).mono ?_
            rintro e wc2 ⟨rfl, hbc⟩
            replace OH := Lib.hid (OH.out.below hbc)
            replace BX := Lib.hid (BX.out.below hbc BX.out.lt)
            clear hbc
            refine hK.out _ _ ?_ (fun hHeld2 => ?_)
            · exact OH.out
            clear hK K hHeld
            have hHeld := hHeld2
            clear hHeld2
            try simp only [Act.put, pA, pB, pC]
            refine wpAnyH_ready (rs := [7, 23]) (by kernel_rfl) (by simp) ?_
            refine rdC rfl (fun K hK => ?_) (rdC rfl (fun K hK => ?_) AllReadyH.nil)
            · have kv := KB.out _ _ BX.out
              go_simp
              clear kv BX
              refine hK.out _ _ ?_ (fun hHeld2 => ?_)
              · exact OH.out
              clear hK K hHeld
              have hHeld := hHeld2
              clear hHeld2
              try simp only [Act.put, pA, pB, pC]
              refine tkP (i := 11) (v := .string (PA ++ P1)) rfl ?_
              try simp only [Act.put, pA, pB, pC]
              refine tkP (i := 15) (v := .string (PA ++ P1 ++ P2)) rfl ?_
              try simp only [Act.put, pA, pB, pC]
              refine tkP (i := 19) (v := .string (PA ++ P1 ++ P2 ++ P3)) rfl ?_
              try simp only [Act.put, pA, pB, pC]
              refine wpAnyH_ready (rs := [23]) (by kernel_rfl) (by simp) ?_
              refine rdC rfl (fun K hK => ?_) AllReadyH.nil
              go_simp
              go_at_call 91
              refine (H4.out _).mono ?_
              rintro e wc3 ⟨rfl, hbc⟩
              replace OH := Lib.hid (OH.out.below hbc)
              clear hbc
              refine hK.out _ _ ?_ (fun hHeld2 => ?_)
              · exact OH.out
              clear hK K hHeld
              have hHeld := hHeld2
              clear hHeld2
              try simp only [Act.put, pA, pB, pC]
              refine tkP (i := 24) (v := .string (PA ++ P1 ++ P2 ++ P3 ++ P4)) rfl ?_
              try simp only [Act.put, pA, pB, pC]
              refine tkP (i := 25) (v := .string (PA ++ P1 ++ P2 ++ P3 ++ P4)) rfl ?_
              try simp only [Act.put, pA, pB, pC]
              refine wpAnyH_done (by kernel_rfl) ?_ _
              clear hHeld
              revert OH
              revert wc3
              revert gx
              exact key.out
            · go_simp
              go_at_call 91
              refine (H4.out _).mono ?_
              rintro e wc3 ⟨rfl, hbc⟩
              replace OH := Lib.hid (OH.out.below hbc)
              replace BX := Lib.hid (BX.out.below hbc BX.out.lt)
              clear hbc
              refine hK.out _ _ ?_ (fun hHeld2 => ?_)
              · exact OH.out
              clear hK K hHeld
              have hHeld := hHeld2
              clear hHeld2
              try simp only [Act.put, pA, pB, pC]
              refine wpAnyH_ready (rs := [7]) (by kernel_rfl) (by simp) ?_
              refine rdC rfl (fun K hK => ?_) AllReadyH.nil
              have kv := KB.out _ _ BX.out
              go_simp
              clear kv BX
              refine hK.out _ _ ?_ (fun hHeld2 => ?_)
              · exact OH.out
              clear hK K hHeld
              have hHeld := hHeld2
              clear hHeld2
              try simp only [Act.put, pA, pB, pC]
              refine tkP (i := 11) (v := .string (PA ++ P1)) rfl ?_
              try simp only [Act.put, pA, pB, pC]
              refine tkP (i := 15) (v := .string (PA ++ P1 ++ P2)) rfl ?_
              try simp only [Act.put, pA, pB, pC]
              refine tkP (i := 19) (v := .string (PA ++ P1 ++ P2 ++ P3)) rfl ?_
              try simp only [Act.put, pA, pB, pC]
              refine tkP (i := 24) (v := .string (PA ++ P1 ++ P2 ++ P3 ++ P4)) rfl ?_
              try simp only [Act.put, pA, pB, pC]
              refine tkP (i := 25) (v := .string (PA ++ P1 ++ P2 ++ P3 ++ P4)) rfl ?_
              try simp only [Act.put, pA, pB, pC]
              refine wpAnyH_done (by kernel_rfl) ?_ _
              clear hHeld
              revert OH
              revert wc3
              revert gx
              exact key.out
    · go_simp
      go_at_call 90
      refine (H1.out _).mono ?_
      rintro e wc0 ⟨rfl, hbc⟩
      replace OH := Lib.hid (OH.out.below hbc)
      clear hbc
      refine hK.out _ _ ?_ (fun hHeld2 => ?_)
      · exact OH.out
      clear hK K hHeld
      have hHeld := hHeld2
      clear hHeld2
      try simp only [Act.put, pA, pB, pC]
      refine wpAnyH_ready (rs := [6, 14]) (by kernel_rfl) (by simp) ?_
      refine rdC rfl (fun K hK => ?_) (rdC rfl (fun K hK => ?_) AllReadyH.nil)
      · go_simp
        replace OH := Lib.hid (OH.out.alloc (.cells #[.int .u8 (IntKind.u8.wrap t.fKind), .int .u8 (IntKind.u8.wrap t.fMark)] 5))
        have BX := Lib.hid (Box.new wc0 5 #[.int .u8 (IntKind.u8.wrap t.fKind), .int .u8 (IntKind.u8.wrap t.fMark)])
        obtain ⟨gx, hgx⟩ : ∃ z, z = wc0.heap.size := ⟨_, rfl⟩
        rw [← hgx] at BX
        rw [← hgx]
        clear hgx
        generalize wc0.alloc (.cells #[.int .u8 (IntKind.u8.wrap t.fKind), .int .u8 (IntKind.u8.wrap t.fMark)] 5) = wa at *
        refine hK.out _ _ ?_ (fun hHeld2 => ?_)
        · exact OH.out
        clear hK K hHeld
        have hHeld := hHeld2
        clear hHeld2
        try simp only [Act.put, pA, pB, pC]
        refine wpAnyH_ready (rs := [7, 14]) (by kernel_rfl) (by simp) ?_
        refine rdC rfl (fun K hK => ?_) (rdC rfl (fun K hK => ?_) AllReadyH.nil)
        · have kv := KB.out _ _ BX.out
          go_simp
          clear kv BX
          refine hK.out _ _ ?_ (fun hHeld2 => ?_)
          · exact OH.out
          clear hK K hHeld
          have hHeld := hHeld2
          clear hHeld2
          try simp only [Act.put, pA, pB, pC]
          refine tkP (i := 11) (v := .string (PA ++ P1)) rfl ?_
          try simp only [Act.put, pA, pB, pC]
          refine wpAnyH_ready (rs := [14]) (by kernel_rfl) (by simp) ?_
          refine rdC rfl (fun K hK => ?_) AllReadyH.nil
          go_simp
          go_at_call 91
          refine (H2.out _).mono ?_
          rintro e wc1 ⟨rfl, hbc⟩
          replace OH := Lib.hid (OH.out.below hbc)
          clear hbc
          refine hK.out _ _ ?_ (fun hHeld2 => ?_)
          · exact OH.out
          clear hK K hHeld
          have hHeld := hHeld2
          clear hHeld2
          try simp only [Act.put, pA, pB, pC]
          refine tkP (i := 15) (v := .string (PA ++ P1 ++ P2)) rfl ?_
          try simp only [Act.put, pA, pB, pC]
          refine wpAnyH_ready (rs := [18]) (by kernel_rfl) (by simp) ?_
          refine rdC rfl (fun K hK => ?_) AllReadyH.nil
          go_simp
          go_at_call 91
          refine (H3.out _).mono ?_
          rintro e wc2 ⟨rfl, hbc⟩
          replace OH := Lib.hid (OH.out.below hbc)
          clear hbc
          refine hK.out _ _ ?_ (fun hHeld2 => ?_)
          · exact OH.out
          clear hK K hHeld
          have hHeld := hHeld2
          clear hHeld2
          try simp only [Act.put, pA, pB, pC]
          refine tkP (i := 19) (v := .string (PA ++ P1 ++ P2 ++ P3)) rfl ?_
          try simp only [Act.put, pA, pB, pC]
          refine wpAnyH_ready (rs := [23]) (by kernel_rfl) (by simp) ?_
          refine rdC rfl (fun K hK => ?_) AllReadyH.nil
          go_simp
          go_at_call 91
          refine (H4.out _).mono ?_
          rintro e wc3 ⟨rfl, hbc⟩
          replace OH := Lib.hid (OH.out.below hbc)
          clear hbc
          refine hK.out _ _ ?_ (fun hHeld2 => ?_)
          · exact OH.out
          clear hK K hHeld
          have hHeld := hHeld2
          clear hHeld2
          try simp only [Act.put, pA, pB, pC]
          refine tkP (i := 24) (v := .string (PA ++ P1 ++ P2 ++ P3 ++ P4)) rfl ?_
          try simp only [Act.put, pA, pB, pC]
          refine tkP (i := 25) (v := .string (PA ++ P1 ++ P2 ++ P3 ++ P4)) rfl ?_
          try simp only [Act.put, pA, pB, pC]
          refine wpAnyH_done (by kernel_rfl) ?_ _
          clear hHeld
          revert OH
          revert wc3
          revert gx
          exact key.out
        · go_simp
          go_at_call 91
          refine (H2.out _).mono ?_
          rintro e wc1 ⟨rfl, hbc⟩
          replace OH := Lib.hid (OH.out.below hbc)
          replace BX := Lib.hid (BX.out.below hbc BX.out.lt)
          clear hbc
          refine hK.out _ _ ?_ (fun hHeld2 => ?_)
          · exact OH.out
          clear hK K hHeld
          have hHeld := hHeld2
          clear hHeld2
          try simp only [Act.put, pA, pB, pC]
          refine wpAnyH_ready (rs := [7, 18]) (by kernel_rfl) (by simp) ?_
          refine rdC rfl (fun K hK => ?_) (rdC rfl (fun K hK => ?_) AllReadyH.nil)
          · have kv := KB.out _ _ BX.out
            go_simp
            clear kv BX
            refine hK.out _ _ ?_ (fun hHeld2 => ?_)
            · exact OH.out
            clear hK K hHeld
            have hHeld := hHeld2
            clear hHeld2
            try simp only [Act.put, pA, pB, pC]
            refine tkP (i := 11) (v := .string (PA ++ P1)) rfl ?_
            try simp only [Act.put, pA, pB, pC]
            refine tkP (i := 15) (v := .string (PA ++ P1 ++ P2)) rfl ?_
            try simp only [Act.put, pA, pB, pC]
            refine wpAnyH_ready (rs := [18]) (by kernel_rfl) (by simp) ?_
            refine rdC rfl (fun K hK => ?_) AllReadyH.nil
            go_simp
            go_at_call 91
            refine (H3.out _).mono ?_
            rintro e wc2 ⟨rfl, hbc⟩
            replace OH := Lib.hid (OH.out.below hbc)
            clear hbc
            refine hK.out _ _ ?_ (fun hHeld2 => ?_)
            · exact OH.out
            clear hK K hHeld
            have hHeld := hHeld2
            clear hHeld2
            try simp only [Act.put, pA, pB, pC]
            refine tkP (i := 19) (v := .string (PA ++ P1 ++ P2 ++ P3)) rfl ?_
            try simp only [Act.put, pA, pB, pC]
            refine wpAnyH_ready (rs := [23]) (by kernel_rfl) (by simp) ?_
            refine rdC rfl (fun K hK => ?_) AllReadyH.nil
            go_simp
            go_at_call 91
            refine (H4.out _).mono ?_
            rintro e wc3 ⟨rfl, hbc⟩
            replace OH := Lib.hid (OH.out.below hbc)
            clear hbc
            refine hK.out _ _ ?_ (fun hHeld2 => ?_)
            · exact OH.out
            clear hK K hHeld
            have hHeld := hHeld2
            clear hHeld2
            try simp only [Act.put, pA, pB, pC]
            refine tkP (i := 24) (v := .string (PA ++ P1 ++ P2 ++ P3 ++ P4)) rfl ?_
            try simp only [Act.put, pA, pB, pC]
            refine tkP (i := 25) (v := .string (PA ++ P1 ++ P2 ++ P3 ++ P4)) rfl ?_
            try simp only [Act.put, pA, pB, pC]
            refine wpAnyH_done (by kernel_rfl) ?_ _
            clear hHeld
            revert OH
            revert wc3
            revert gx
            exact key.out
          · go_simp
            go_at_call 91
            refine (H3.out _).mono ?_
            rintro e wc2 ⟨rfl, hbc⟩
            replace OH := Lib.hid (OH.out.below hbc)
            replace BX := Lib.hid (BX.out.below hbc BX.out.lt)
            clear hbc
            refine hK.out _ _ ?_ (fun hHeld2 => ?_)
            · exact OH.out
            clear hK K hHeld
            have hHeld := hHeld2
            clear hHeld2
            try simp only [Act.put, pA, pB, pC]
            refine wpAnyH_ready (rs := [7, 23]) (by kernel_rfl) (by simp) ?_
            refine rdC rfl (fun K hK => ?_) (rdC rfl (fun K hK => ?_) AllReadyH.nil)
            · have kv := KB.out _ _ BX.out
              go_simp
              clear kv BX
              refine hK.out _ _ ?_ (fun hHeld2 => ?_)
              · exact OH.out
              clear hK K hHeld
              have hHeld := hHeld2
              clear hHeld2
              try simp only [Act.put, pA, pB, pC]
              refine tkP (i := 11) (v := .string (PA ++ P1)) rfl ?_
              try simp only [Act.put, pA, pB, pC]
              refine tkP (i := 15) (v := .string (PA ++ P1 ++ P2)) rfl ?_
              try simp only [Act.put, pA, pB, pC]
              refine tkP (i := 19) (v := .string (PA ++ P1 ++ P2 ++ P3)) rfl ?_
              try simp only [Act.put, pA, pB, pC]
              refine wpAnyH_ready (rs := [23]) (by kernel_rfl) (by simp) ?_
              refine rdC rfl (fun K hK => ?_) AllReadyH.nil
              go_simp
              go_at_call 91
              refine (H4.out _).mono ?_
              rintro e wc3 ⟨rfl, hbc⟩
              replace OH := Lib.hid (OH.out.below hbc)
              clear hbc
              refine hK.out _ _ ?_ (fun hHeld2 => ?_)
              · exact OH.out
              clear hK K hHeld
              have hHeld := hHeld2
              clear hHeld2
              try simp only [Act.put, pA, pB, pC]
              refine tkP (i := 24) (v := .string (PA ++ P1 ++ P2 ++ P3 ++ P4)) rfl ?_
              try simp only [Act.put, pA, pB, pC]
              refine tkP (i := 25) (v := .string (PA ++ P1 ++ P2 ++ P3 ++ P4)) rfl ?_
              try simp only [Act.put, pA, pB, pC]
              refine wpAnyH_done (by kernel_rfl) ?_ _
              clear hHeld
              revert OH
              revert wc3
              revert gx
              exact key.out
            · go_simp
              go_at_call 91
              refine (H4.out _).mono ?_
              rintro e wc3 ⟨rfl, hbc⟩
              replace OH := Lib.hid (OH.out.below hbc)
              replace BX := Lib.hid (BX.out.below hbc BX.out.lt)
              clear hbc
              refine hK.out _ _ ?_ (fun hHeld2 => ?_)
              · exact OH.out
              clear hK K hHeld
              have hHeld := hHeld2
              clear hHeld2
              try simp only [Act.put, pA, pB, pC]
              refine wpAnyH_ready (rs := [7]) (by kernel_rfl) (by simp) ?_
              refine rdC rfl (fun K hK => ?_) AllReadyH.nil
              have kv := KB.out _ _ BX.out
              go_simp
              clear kv BX
              refine hK.out _ _ ?_ (fun hHeld2 => ?_)
              · exact OH.out
              clear hK K hHeld
              have hHeld := hHeld2
              clear hHeld2
              try simp only [Act.put, pA, pB, pC]
              refine tkP (i := 11) (v := .string (PA ++ P1)) rfl ?_
              try simp only [Act.put, pA, pB, pC]
              refine tkP (i := 15) (v := .string (PA ++ P1 ++ P2)) rfl ?_
              try simp only [Act.put, pA, pB, pC]
              refine tkP (i := 19) (v := .string (PA ++ P1 ++ P2 ++ P3)) rfl ?_
              try simp only [Act.put, pA, pB, pC]
              refine tkP (i := 24) (v := .string (PA ++ P1 ++ P2 ++ P3 ++ P4)) rfl ?_
              try simp only [Act.put, pA, pB, pC]
              refine tkP (i := 25) (v := .string (PA ++ P1 ++ P2 ++ P3 ++ P4)) rfl ?_
              try simp only [Act.put, pA, pB, pC]
              refine wpAnyH_done (by kernel_rfl) ?_ _
              clear hHeld
              revert OH
              revert wc3
              revert gx
              exact key.out
      · go_simp
        go_at_call 91
        refine (H2.out _).mono ?_
        rintro e wc1 ⟨rfl, hbc⟩
        replace OH := Lib.hid (OH.out.below hbc)
        clear hbc
        refine hK.out _ _ ?_ (fun hHeld2 => ?_)
        · exact OH.out
        clear hK K hHeld
        have hHeld := hHeld2
        clear hHeld2
        try simp only [Act.put, pA, pB, pC]
        refine wpAnyH_ready (rs := [6, 18]) (by kernel_rfl) (by simp) ?_
        refine rdC rfl (fun K hK => ?_) (rdC rfl (fun K hK => ?_) AllReadyH.nil)
        · go_simp
          replace OH := Lib.hid (OH.out.alloc (.cells #[.int .u8 (IntKind.u8.wrap t.fKind), .int .u8 (IntKind.u8.wrap t.fMark)] 5))
          have BX := Lib.hid (Box.new wc1 5 #[.int .u8 (IntKind.u8.wrap t.fKind), .int .u8 (IntKind.u8.wrap t.fMark)])
          obtain ⟨gx, hgx⟩ : ∃ z, z = wc1.heap.size := ⟨_, rfl⟩
          rw [← hgx] at BX
          rw [← hgx]
          clear hgx
          generalize wc1.alloc (.cells #[.int .u8 (IntKind.u8.wrap t.fKind), .int .u8 (IntKind.u8.wrap t.fMark)] 5) = wa at *
          refine hK.out _ _ ?_ (fun hHeld2 => ?_)
          · exact OH.out
          clear hK K hHeld
          have hHeld := hHeld2
          clear hHeld2
          try simp only [Act.put, pA, pB, pC]
          refine wpAnyH_ready (rs := [7, 18]) (by kernel_rfl) (by simp) ?_
          refine rdC rfl (fun K hK => ?_) (rdC rfl (fun K hK => ?_) AllReadyH.nil)
          · have kv := KB.out _ _ BX.out
            go_simp
            clear kv BX
            refine hK.out _ _ ?_ (fun hHeld2 => ?_)
            · exact OH.out
            clear hK K hHeld
            have hHeld := hHeld2
            clear hHeld2
            try simp only [Act.put, pA, pB, pC]
            refine tkP (i := 11) (v := .string (PA ++ P1)) rfl ?_
            try simp only [Act.put, pA, pB, pC]
            refine tkP (i := 15) (v := .string (PA ++ P1 ++ P2)) rfl ?_
            try simp only [Act.put, pA, pB, pC]
            refine wpAnyH_ready (rs := [18]) (by kernel_rfl) (by simp) ?_
            refine rdC rfl (fun K hK => ?_) AllReadyH.nil
            go_simp
            go_at_call 91
            refine (H3.out _).mono ?_
            rintro e wc2 ⟨rfl, hbc⟩
            replace OH := Lib.hid (OH.out.below hbc)
            clear hbc
            refine hK.out _ _ ?_ (fun hHeld2 => ?_)
            · exact OH.out
            clear hK K hHeld
            have hHeld := hHeld2
            clear hHeld2
            try simp only [Act.put, pA, pB, pC]
            refine tkP (i := 19) (v := .string (PA ++ P1 ++ P2 ++ P3)) rfl ?_
            try simp only [Act.put, pA, pB, pC]
            refine wpAnyH_ready (rs := [23]) (by kernel_rfl) (by simp) ?_
            refine rdC rfl (fun K hK => ?_) AllReadyH.nil
            go_simp
            go_at_call 91
            refine (H4.out _).mono ?_
            rintro e wc3 ⟨rfl, hbc⟩
            replace OH := Lib.hid (OH.out.below hbc)
            clear hbc
            refine hK.out _ _ ?_ (fun hHeld2 => ?_)
            · exact OH.out
            clear hK K hHeld
            have hHeld := hHeld2
            clear hHeld2
            try simp only [Act.put, pA, pB, pC]
            refine tkP (i := 24) (v := .string (PA ++ P1 ++ P2 ++ P3 ++ P4)) rfl ?_
            try simp only [Act.put, pA, pB, pC]
            refine tkP (i := 25) (v := .string (PA ++ P1 ++ P2 ++ P3 ++ P4)) rfl ?_
            try simp only [Act.put, pA, pB, pC]
            refine wpAnyH_done (by kernel_rfl) ?_ _
            clear hHeld
            revert OH
            revert wc3
            revert gx
            exact key.out
          · go_simp
            go_at_call 91
            refine (H3.out _).mono ?_
            rintro e wc2 ⟨rfl, hbc⟩
            replace OH := Lib.hid (OH.out.below hbc)
            replace BX := Lib.hid (BX.out.below hbc BX.out.lt)
            clear hbc
            refine hK.out _ _ ?_ (fun hHeld2 => ?_)
            · exact OH.out
            clear hK K hHeld
            have hHeld := hHeld2
            clear hHeld2
            try simp only [Act.put, pA, pB, pC]
            refine wpAnyH_ready (rs := [7, 23]) (by kernel_rfl) (by simp) ?_
            refine rdC rfl (fun K hK => ?_) (rdC rfl (fun K hK => ?_) AllReadyH.nil)
            · have kv := KB.out _ _ BX.out
              go_simp
              clear kv BX
              refine hK.out _ _ ?_ (fun hHeld2 => ?_)
              · exact OH.out
              clear hK K hHeld
              have hHeld := hHeld2
              clear hHeld2
              try simp only [Act.put, pA, pB, pC]
              refine tkP (i := 11) (v := .string (PA ++ P1)) rfl ?_
              try simp only [Act.put, pA, pB, pC]
              refine tkP (i := 15) (v := .string (PA ++ P1 ++ P2)) rfl ?_
              try simp only [Act.put, pA, pB, pC]
              refine tkP (i := 19) (v := .string (PA ++ P1 ++ P2 ++ P3)) rfl ?_
              try simp only [Act.put, pA, pB, pC]
              refine wpAnyH_ready (rs := [23]) (by kernel_rfl) (by simp) ?_
              refine rdC rfl (fun K hK => ?_) AllReadyH.nil
              go_simp
              go_at_call 91
              refine (H4.out _).mono ?_
              rintro e wc3 ⟨rfl, hbc⟩
              replace OH := Lib.hid (OH.out.below hbc)
              clear hbc
              refine hK.out _ _ ?_ (fun hHeld2 => ?_)
              · exact OH.out
              clear hK K hHeld
              have hHeld := hHeld2
              clear hHeld2
              try simp only [Act.put, pA, pB, pC]
              refine tkP (i := 24) (v := .string (PA ++ P1 ++ P2 ++ P3 ++ P4)) rfl ?_
              try simp only [Act.put, pA, pB, pC]
              refine tkP (i := 25) (v := .string (PA ++ P1 ++ P2 ++ P3 ++ P4)) rfl ?_
              try simp only [Act.put, pA, pB, pC]
              refine wpAnyH_done (by kernel_rfl) ?_ _
              clear hHeld
              revert OH
              revert wc3
              revert gx
              exact key.out
            · go_simp
              go_at_call 91
              refine (H4.out _).mono ?_
              rintro e wc3 ⟨rfl, hbc⟩
              replace OH := Lib.hid (OH.out.below hbc)
              replace BX := Lib.hid (BX.out.below hbc BX.out.lt)
              clear hbc
              refine hK.out _ _ ?_ (fun hHeld2 => ?_)
              · exact OH.out
              clear hK K hHeld
              have hHeld := hHeld2
              clear hHeld2
              try simp only [Act.put, pA, pB, pC]
              refine wpAnyH_ready (rs := [7]) (by kernel_rfl) (by simp) ?_
              refine rdC rfl (fun K hK => ?_) AllReadyH.nil
              have kv := KB.out _ _ BX.out
              go_simp
              clear kv BX
              refine hK.out _ _ ?_ (fun hHeld2 => ?_)
              · exact OH.out
              clear hK K hHeld
              have hHeld := hHeld2
              clear hHeld2
              try simp only [Act.put, pA, pB, pC]
              refine tkP (i := 11) (v := .string (PA ++ P1)) rfl ?_
              try simp only [Act.put, pA, pB, pC]
              refine tkP (i := 15) (v := .string (PA ++ P1 ++ P2)) rfl ?_
              try simp only [Act.put, pA, pB, pC]
              refine tkP (i := 19) (v := .string (PA ++ P1 ++ P2 ++ P3)) rfl ?_
              try simp only [Act.put, pA, pB, pC]
              refine tkP (i := 24) (v := .string (PA ++ P1 ++ P2 ++ P3 ++ P4)) rfl ?_
              try simp only [Act.put, pA, pB, pC]
              refine tkP (i := 25) (v := .string (PA ++ P1 ++ P2 ++ P3 ++ P4)) rfl ?_
              try simp only [Act.put, pA, pB, pC]
              refine wpAnyH_done (by kernel_rfl) ?_ _
              clear hHeld
              revert OH
              revert wc3
              revert gx
              exact key.out
        · go_simp
          go_at_call 91
          refine (H3.out _).mono ?_
          rintro e wc2 ⟨rfl, hbc⟩
          replace OH := Lib.hid (OH.out.below hbc)
          clear hbc
          refine hK.out _ _ ?_ (fun hHeld2 => ?_)
          · exact OH.out
          clear hK K hHeld
          have hHeld := hHeld2
          clear hHeld2
          try simp only [Act.put, pA, pB, pC]
          refine wpAnyH_ready (rs := [6, 23]) (by kernel_rfl) (by simp) ?_
          refine rdC rfl (fun K hK => ?_) (rdC rfl (fun K hK => ?_) AllReadyH.nil)
          · go_simp
            replace OH := Lib.hid (OH.out.alloc (.cells #[.int .u8 (IntKind.u8.wrap t.fKind), .int .u8 (IntKind.u8.wrap t.fMark)] 5))
            have BX := Lib.hid (Box.new wc2 5 #[.int .u8 (IntKind.u8.wrap t.fKind), .int .u8 (IntKind.u8.wrap t.fMark)])
            obtain ⟨gx, hgx⟩ : ∃ z, z = wc2.heap.size := ⟨_, rfl⟩
            rw [← hgx] at BX
            rw [← hgx]
            clear hgx
            generalize wc2.alloc (.cells #[.int .u8 (IntKind.u8.wrap t.fKind), .int .u8 (IntKind.u8.wrap t.fMark)] 5) = wa at *
            refine hK.out _ _ ?_ (fun hHeld2 => ?_)
            · exact OH.out
            clear hK K hHeld
            have hHeld := hHeld2
            clear hHeld2
            try simp only [Act.put, pA, pB, pC]
            refine wpAnyH_ready (rs := [7, 23]) (by kernel_rfl) (by simp) ?_
            refine rdC rfl (fun K hK => ?_) (rdC rfl (fun K hK => ?_) AllReadyH.nil)
            · have kv := KB.out _ _ BX.out
              go_simp
              clear kv BX
              refine hK.out _ _ ?_ (fun hHeld2 => ?_)
              · exact OH.out
              clear hK K hHeld
              have hHeld := hHeld2
              clear hHeld2
              try simp only [Act.put, pA, pB, pC]
              refine tkP (i := 11) (v := .string (PA ++ P1)) rfl ?_
              try simp only [Act.put, pA, pB, pC]
              refine tkP (i := 15) (v := .string (PA ++ P1 ++ P2)) rfl ?_
              try simp only [Act.put, pA, pB, pC]
              refine tkP (i := 19) (v := .string (PA ++ P1 ++ P2 ++ P3)) rfl ?_
              try simp only [Act.put, pA, pB, pC]
              refine wpAnyH_ready (rs := [23]) (by kernel_rfl) (by simp) ?_
              refine rdC rfl (fun K hK => ?_) AllReadyH.nil
              go_simp
              go_at_call 91
              refine (H4.out _).mono ?_
              rintro e wc3 ⟨rfl, hbc⟩
              replace OH := Lib.hid (OH.out.below hbc)
              clear hbc
              refine hK.out _ _ ?_ (fun hHeld2 => ?_)
              · exact OH.out
              clear hK K hHeld
              have hHeld := hHeld2
              clear hHeld2
              try simp only [Act.put, pA, pB, pC]
              refine tkP (i := 24) (v := .string (PA ++ P1 ++ P2 ++ P3 ++ P4)) rfl ?_
              try simp only [Act.put, pA, pB, pC]
              refine tkP (i := 25) (v := .string (PA ++ P1 ++ P2 ++ P3 ++ P4)) rfl ?_
              try simp only [Act.put, pA, pB, pC]
              refine wpAnyH_done (by kernel_rfl) ?_ _
              clear hHeld
              revert OH
              revert wc3
              revert gx
              exact key.out
            · go_simp
              go_at_call 91
              refine (H4.out _).mono ?_
              rintro e wc3 ⟨rfl, hbc⟩
              replace OH := Lib.hid (OH.out.below hbc)
              replace BX := Lib.hid (BX.out.below hbc BX.out.lt)
              clear hbc
              refine hK.out _ _ ?_ (fun hHeld2 => ?_)
              · exact OH.out
              clear hK K hHeld
              have hHeld := hHeld2
              clear hHeld2
              try simp only [Act.put, pA, pB, pC]
              refine wpAnyH_ready (rs := [7]) (by kernel_rfl) (by simp) ?_
              refine rdC rfl (fun K hK => ?_) AllReadyH.nil
              have kv := KB.out _ _ BX.out
              go_simp
              clear kv BX
              refine hK.out _ _ ?_ (fun hHeld2 => ?_)
              · exact OH.out
              clear hK K hHeld
              have hHeld := hHeld2
              clear hHeld2
              try simp only [Act.put, pA, pB, pC]
              refine tkP (i := 11) (v := .string (PA ++ P1)) rfl ?_
              try simp only [Act.put, pA, pB, pC]
              refine tkP (i := 15) (v := .string (PA ++ P1 ++ P2)) rfl ?_
              try simp only [Act.put, pA, pB, pC]
              refine tkP (i := 19) (v := .string (PA ++ P1 ++ P2 ++ P3)) rfl ?_
              try simp only [Act.put, pA, pB, pC]
              refine tkP (i := 24) (v := .string (PA ++ P1 ++ P2 ++ P3 ++ P4)) rfl ?_
              try simp only [Act.put, pA, pB, pC]
              refine tkP (i := 25) (v := .string (PA ++ P1 ++ P2 ++ P3 ++ P4)) rfl ?_
              try simp only [Act.put, pA, pB, pC]
              refine wpAnyH_done (by kernel_rfl) ?_ _
              clear hHeld
              revert OH
              revert wc3
              revert gx
              exact key.out
          · go_simp
            go_at_call 91
            refine (H4.out _).mono ?_
            rintro e wc3 ⟨rfl, hbc⟩
            replace OH := Lib.hid (OH.out.below hbc)
            clear hbc
            refine hK.out _ _ ?_ (fun hHeld2 => ?_)
            · exact OH.out
            clear hK K hHeld
            have hHeld := hHeld2
            clear hHeld2
            try simp only [Act.put, pA, pB, pC]
            refine wpAnyH_ready (rs := [6]) (by kernel_rfl) (by simp) ?_
            refine rdC rfl (fun K hK => ?_) AllReadyH.nil
            go_simp
            replace OH := Lib.hid (OH.out.alloc (.cells #[.int .u8 (IntKind.u8.wrap t.fKind), .int .u8 (IntKind.u8.wrap t.fMark)] 5))
            have BX := Lib.hid (Box.new wc3 5 #[.int .u8 (IntKind.u8.wrap t.fKind), .int .u8 (IntKind.u8.wrap t.fMark)])
            obtain ⟨gx, hgx⟩ : ∃ z, z = wc3.heap.size := ⟨_, rfl⟩
            rw [← hgx] at BX
            rw [← hgx]
            clear hgx
            generalize wc3.alloc (.cells #[.int .u8 (IntKind.u8.wrap t.fKind), .int .u8 (IntKind.u8.wrap t.fMark)] 5) = wa at *
            refine hK.out _ _ ?_ (fun hHeld2 => ?_)
            · exact OH.out
            clear hK K hHeld
            have hHeld := hHeld2
            clear hHeld2
            try simp only [Act.put, pA, pB, pC]
            refine wpAnyH_ready (rs := [7]) (by kernel_rfl) (by simp) ?_
            refine rdC rfl (fun K hK => ?_) AllReadyH.nil
            have kv := KB.out _ _ BX.out
            go_simp
            clear kv BX
            refine hK.out _ _ ?_ (fun hHeld2 => ?_)
            · exact OH.out
            clear hK K hHeld
            have hHeld := hHeld2
            clear hHeld2
            try simp only [Act.put, pA, pB, pC]
            refine tkP (i := 11) (v := .string (PA ++ P1)) rfl ?_
            try simp only [Act.put, pA, pB, pC]
            refine tkP (i := 15) (v := .string (PA ++ P1 ++ P2)) rfl ?_
            try simp only [Act.put, pA, pB, pC]
            refine tkP (i := 19) (v := .string (PA ++ P1 ++ P2 ++ P3)) rfl ?_
            try simp only [Act.put, pA, pB, pC]
            refine tkP (i := 24) (v := .string (PA ++ P1 ++ P2 ++ P3 ++ P4)) rfl ?_
            try simp only [Act.put, pA, pB, pC]
            refine tkP (i := 25) (v := .string (PA ++ P1 ++ P2 ++ P3 ++ P4)) rfl ?_
            try simp only [Act.put, pA, pB, pC]
            refine wpAnyH_done (by kernel_rfl) ?_ _
            clear hHeld
            revert OH
            revert wa
            revert gx
            exact key.out
  case heavy =>
    intro gx W OH
    clear H1 H2 H3 H4 KB W2 W3 W4 hz1 hz2 hz3 hz4
    obtain ⟨_, _, _, _, _, y5, hbW⟩ := OH.out
    have hzz : (PA ++ P1 ++ P2 ++ P3 ++ P4).size ≤ 28 := by
      obtain ⟨g1, g2, g3, g4, g5⟩ := ZZ.out
      simp only [ByteArray.size_append]
      omega
    generalize PA ++ P1 ++ P2 ++ P3 ++ P4 = PP at *
    clear ZZ
    go_wp2_with fail
    go_loopw [34, 3] (fun i sv wr => ∃ k : Nat, i = .int .i64 k ∧ sv = .string (PP ++ catP paramPart (t.fParams.take k)) ∧ k ≤ t.fParams.length ∧ ObjHeld w t a c wr) (fun i _ _ => t.fParams.length - (intOf i).toNat)
    case atStart => exact ⟨0, rfl, by rw [List.take_zero]; show Value.string PP = Value.string (PP ++ ByteArray.empty); rw [ba_empty], by omega, OH.out⟩
    case round =>
      obtain ⟨wl, hwl⟩ : ∃ z, z = wr := ⟨_, rfl⟩
      subst hwl
      obtain ⟨k, rfl, rfl, hk, hoh⟩ := hrel
      have OH := Lib.hid hoh
      clear hoh
      by_cases hlt : k < t.fParams.length
      · have hpb : paramB t.fParams[k] = true := List.all_eq_true.1 Hall.out _ (List.getElem_mem hlt)
        have hsz := catP_size paramPart 17 paramPart_size (t.fParams.take k)
        have htl : (t.fParams.take k).length = k := by rw [List.length_take]; omega
        have hnx : catP paramPart (t.fParams.take (k + 1)) = catP paramPart (t.fParams.take k) ++ paramPart t.fParams[k] := by rw [take_more hlt, catP_snoc]
        have HNX := Lib.hid hnx
        rw [htl] at hsz
        clear hnx htl
        obtain ⟨pb, po, cs, hpa, _, hpbl, hc, hat⟩ := (Rows.below Hr.out (OH.out.2.2.2.2.2.2)) k hlt
        obtain rfl : cs = [.string t.fParams[k].fName, .bool t.fParams[k].fByVar, .int .i64 t.fParams[k].fType] := hat
        subst hpa
        have hn3 : paramS.n = 3 := rfl
        rw [hn3] at hc
        have d0 := hc 0 (by decide)
        have d1 := hc 1 (by decide)
        have d2 := hc 2 (by decide)
        simp at d0 d1 d2
        unfold paramB at hpb
        simp only [Bool.and_eq_true, decide_eq_true_eq] at hpb
        obtain ⟨hnb, ⟨hwn, _⟩, _⟩ := hpb
        have HPP := Lib.hid (show paramPart t.fParams[k] = namePart t.fParams[k].fName ++ (byteB (if t.fParams[k].fByVar then 1 else 0) ++ numPart t.fParams[k].fType) from rfl)
        have G1 := Lib.hid (fun W => sNameB7 t.fParams[k].fName W hnb)
        have G2 := Lib.hid (fun W => sNum7 t.fParams[k].fType W hwn)
        have g1 := namePart_size t.fParams[k].fName
        have g2 := numPart_size t.fParams[k].fType
        generalize namePart t.fParams[k].fName = N1 at *
        generalize numPart t.fParams[k].fType = N2 at *
        generalize t.fParams[k].fName = pn at *
        generalize t.fParams[k].fType = pt at *
        generalize t.fParams[k].fByVar = pv at *
        have hqs : (PP ++ catP paramPart (t.fParams.take k)).size ≤ 28 + 17 * 1000 := by
          rw [ByteArray.size_append]
          have : k * 17 ≤ 1000 * 17 := Nat.mul_le_mul_right 17 (by omega)
          omega
        obtain ⟨Q, hQ⟩ : ∃ q, q = PP ++ catP paramPart (t.fParams.take k) := ⟨_, rfl⟩
        rw [← hQ] at hqs ⊢
        have HQ := Lib.hid hQ
        clear hQ hc hnb hwn hsz
        have hzq : ¬ 9223372036854775807 < Q.size + N1.size := by omega
        have hzr : ∀ b : UInt8, ¬ 9223372036854775807 < Q.size + N1.size + (ByteArray.mk #[b]).size := fun b => by have : (ByteArray.mk #[b]).size = 1 := rfl; omega
        have hzr2 : ¬ 9223372036854775807 < Q.size + N1.size + 1 := by omega
        have hzt : ¬ 9223372036854775807 < Q.size + N1.size + 1 + N2.size := by omega
        have hzt2 : ∀ b : UInt8, ¬ 9223372036854775807 < Q.size + N1.size + (ByteArray.mk #[b]).size + N2.size := fun b => by have : (ByteArray.mk #[b]).size = 1 := rfl; omega
        have XP := Lib.hid (Box.new wl 107 #[.string pn, .bool pv, .int .i64 pt])
        have OA := Lib.hid (OH.out.alloc (.cells #[.string pn, .bool pv, .int .i64 pt] 107))
        go_wp2_with fail
        refine (G1.out _).mono ?_
        rintro e w5 ⟨rfl, hb⟩
        have X5 := Lib.hid (XP.out.below hb XP.out.lt)
        have O5 := Lib.hid (OA.out.below hb)
        clear hb XP OA OH G1 d0 d1 d2
        have z1 : _ = some (Value.bool pv) := X5.out.cell 1
        have z2 : _ = some (Value.int .i64 pt) := X5.out.cell 2
        cases pv
        all_goals
          go_wp2_with fail
          refine (G2.out _).mono ?_
          rintro e w6 ⟨rfl, hb⟩
          have O6 := Lib.hid (O5.out.below hb)
          clear hb O5 X5 z1 z2
          go_wp2_with fail
          exact ⟨⟨k + 1, by congr 1, by rw [HNX.out, HPP.out, HQ.out, ba_assoc, ba_assoc, ba_assoc]; first | rfl | (rw [if_pos trivial]; rfl) | (rw [if_neg (by decide)]; rfl), by omega, O6.out⟩, by simp [intOf]; omega⟩
      · obtain rfl : k = t.fParams.length := by omega
        rw [List.take_length, ← Fin.out]
        have hbl := OH.out.2.2.2.2.2.2
        clear y5 Fin
        go_wp2_with fail
        go_ret
        exact ⟨rfl, hbl⟩
end Go.Proofs.YtaccifjkeblhpaaGreat
