
/-
  What is proved: what the export of a scope is as data; the contract of the model's IsExport. No condition beside what each theorem states.
-/
import Derived.Test.YtbpbebhnledgnaaGreatSExport
import Derived.Test.YtbpbebhnledgnaaGreatSSameScope
import Derived.Test.YtbpbebhnledgnaaGreatSScopeGood
import Derived.Deep.RegionHeld3
namespace Go.Proofs.YtbpbebhnledgnaaGreat
open Go.ChangeShapes Go.WideShapes Go.ChangeAt Go.RowKit
set_option maxRecDepth 100000

/-- The export of a scope. -/
def expD (s : ScopeD) : ScopeD := ⟨s.fName, [], tableZ s.fTypes (orderZ s.fTypes s.fObjects), (shownO s.fObjects).map (transO (orderZ s.fTypes s.fObjects)), []⟩
theorem obs_ok {s : ScopeD} (h : scopeP s) : ObsOk s.fTypes s.fObjects := fun ob hob => by
  have h3 := h.2.2.1.1.three
  have ho := h.2.2.2.1.2.1 ob hob
  have one : ∀ y : Int, -1 ≤ y → y < (s.fTypes.length : Int) → TypeOr s.fTypes y := fun y y0 y1 => by
    by_cases hy : y < 0
    · exact .inl hy
    · obtain ⟨k, rfl⟩ := Int.eq_ofNat_of_zero_le (show 0 ≤ y by omega)
      exact .inr ⟨k, rfl, by omega⟩
  rcases ho.2.2 with ⟨_, q1, _, q3⟩ | ⟨_, q1, _, q3⟩ | ⟨_, q1, _, q3⟩
  · have hp : ob.fParams = [] := List.eq_nil_of_length_eq_zero q3
    refine ⟨by omega, fun y hy => ?_⟩
    unfold namesO at hy
    rw [hp] at hy
    rw [List.mem_singleton.1 hy]
    exact one _ (by omega) (by omega)
  · have hp : ob.fParams = [] := List.eq_nil_of_length_eq_zero q3
    refine ⟨by omega, fun y hy => ?_⟩
    unfold namesO at hy
    rw [hp] at hy
    rw [List.mem_singleton.1 hy]
    exact one _ (by omega) (by omega)
  · refine ⟨q3.1, fun y hy => ?_⟩
    unfold namesO at hy
    rcases List.mem_cons.1 hy with rfl | hy
    · exact one _ q1.1 q1.2
    · obtain ⟨p, hp, rfl⟩ := List.mem_map.1 hy
      have h2 := q3.2.1 p hp
      unfold parTyped at h2
      exact one _ (by omega) (by omega)
theorem wtL_map {T U : Type} (f : T → Nat) (g : U → Nat) (m : T → U) (h : ∀ x, g (m x) ≤ f x) : ∀ l : List T, wtL g (l.map m) ≤ wtL f l
  | [] => Nat.le_refl _
  | x :: l => by
    have ih := wtL_map f g m h l
    have hx := h x
    unfold wtL at *
    simp only [List.map_cons, List.length_cons, List.sum_cons]
    omega
theorem transF_wt (o : List Int) (f : FieldD) : (transF o f).wt ≤ f.wt := by
  unfold transF FieldD.wt
  by_cases h : f.fMark = 0
  · simp only [if_pos h]
    exact Nat.zero_le _
  · simp only [if_neg h]
    exact Nat.le_refl _
theorem transT_wt (o : List Int) (t : TypeD) : (transT o t).wt ≤ t.wt := by
  have := wtL_map FieldD.wt FieldD.wt (transF o) (transF_wt o) t.fFields
  unfold transT TypeD.wt
  simp only
  omega
theorem transO_wt (o : List Int) (t : ObjectD) : (transO o t).wt ≤ t.wt := by
  have := wtL_map ParamD.wt ParamD.wt (transP o) (fun _ => Nat.le_refl _) t.fParams
  unfold transO ObjectD.wt
  simp only
  omega
theorem transT_mod (o : List Int) {t : TypeD} (h : t.mod) : (transT o t).mod := by
  obtain ⟨h1, h2, h3, h4⟩ := h
  refine ⟨h1, h2, by unfold transT; simpa using h3, fun f hf => ?_⟩
  unfold transT at hf
  obtain ⟨g, hg, rfl⟩ := List.mem_map.1 hf
  exact Nat.le_trans (transF_wt o g) (h4 g hg)
theorem exp_k {s : ScopeD} (h : scopeP s) (K : ScopeK s) : ScopeK (expD s) := by
  obtain ⟨OM, _, _⟩ := orderZ_whole h.2.2.1.1.1 h.2.2.1.1.leads (fun ob hb => (obs_ok h ob hb).2)
  have hm := OM.len
  have h24 := h.2.2.1.1.most
  have hl : (shownO s.fObjects).length ≤ s.fObjects.length := List.length_filter_le _ _
  have htm : ∀ x ∈ orderZ s.fTypes s.fObjects, typeZat s.fTypes x ∈ s.fTypes := fun x hx => by
    obtain ⟨x0, x1⟩ := OM.here x hx
    obtain ⟨k, rfl⟩ := Int.eq_ofNat_of_zero_le x0
    rw [typeZat_in (by omega : k < s.fTypes.length)]
    exact List.getElem_mem _
  refine ⟨K.nm, Nat.zero_le _, ?_, ?_, Nat.zero_le _, ?_, ?_, ?_, ?_, ?_, ?_⟩
  · show ((orderZ s.fTypes s.fObjects).map _).length ≤ _
    rw [List.length_map]
    omega
  · show ((shownO s.fObjects).map _).length ≤ _
    rw [List.length_map]
    have := K.lo
    omega
  · intro x hx
    obtain ⟨n, hn, rfl⟩ := List.mem_map.1 hx
    exact Nat.le_trans (transT_wt _ _) (K.tw _ (htm n hn))
  · intro x hx
    obtain ⟨ob, hb, rfl⟩ := List.mem_map.1 hx
    exact Nat.le_trans (transO_wt _ _) (K.ow _ (List.mem_filter.1 hb).1)
  · intro x hx
    cases hx
  · intro x hx
    obtain ⟨n, hn, rfl⟩ := List.mem_map.1 hx
    exact transT_mod _ (K.mt _ (htm n hn))
  · intro x hx
    obtain ⟨ob, hb, rfl⟩ := List.mem_map.1 hx
    obtain ⟨m1, m2, m3⟩ := K.mo _ (List.mem_filter.1 hb).1
    refine ⟨m1, by unfold transO; simpa using m2, fun p hp => ?_⟩
    unfold transO at hp
    obtain ⟨p', hp', rfl⟩ := List.mem_map.1 hp
    exact m3 p' hp'
  · intro x hx
    cases hx
/-- Whether a scope is its own export, and whether it is good. -/
noncomputable def isExpB (s : ScopeD) : Bool := scopeB s && eqB (expD s) s
theorem isExp_no {s : ScopeD} (h : ¬ scopeP s) : scopeB s = false ∧ isExpB s = false := by
  unfold isExpB
  rw [scopeB_false h]
  exact ⟨rfl, rfl⟩
theorem isExp_yes {s : ScopeD} (h : scopeP s) : scopeB s = true ∧ isExpB s = eqB (expD s) s := by
  unfold isExpB
  rw [scopeB_true h]
  exact ⟨rfl, Bool.true_and _⟩

set_option maxHeartbeats 8000000 in
theorem sIsExport (s : ScopeD) (a1 a2 a3 a4 : Option Addr) (w : World) (K : ScopeK s) (hr : ScopeR Any w a1 a2 a3 a4 s) :
    Calls Tryz.prog 14 #[.agg (scopeC s a1 a2 a3 a4 s.fImports.length s.fTypes.length s.fObjects.length s.fUses.length)] w fun e w' => e = .returned (.tuple #[.bool (isExpB s), .bool (scopeB s)]) ∧ Below w.heap.size w w' := by
  have B0 := Lib.hid ((Below.refl w.heap.size w).alloc (Nat.le_refl _) (.cells (scopeC s a1 a2 a3 a4 s.fImports.length s.fTypes.length s.fObjects.length s.fUses.length) 33))
  have X0 := Lib.hid (Box.new w 33 (scopeC s a1 a2 a3 a4 s.fImports.length s.fTypes.length s.fObjects.length s.fUses.length))
  have R0 := Lib.hid (hr.below B0.out)
  have HG := Lib.hid (sl4Good s a1 a2 a3 a4 _ _ _ _ _ (K.m R0.out))
  have KK := Lib.hid K
  clear hr K
  go_enter Tryz.func14, Tryz.ntmps14
  go_wp2_with fail
  refine HG.out.mono ?_
  rintro e w1 ⟨rfl, hb⟩
  have B1 := Lib.hid (B0.out.trans (hb.mono B0.out.size))
  have X1 := Lib.hid (X0.out.below hb X0.out.lt)
  have R1 := Lib.hid (R0.out.below hb)
  clear hb HG B0 X0 R0
  by_cases hp : scopeP s
  · obtain ⟨q1, q2⟩ := isExp_yes hp
    have HQ := Lib.hid (And.intro q1 q2)
    obtain ⟨n2, hn2⟩ : ∃ n, n = (tableZ s.fTypes (orderZ s.fTypes s.fObjects)).length := ⟨_, rfl⟩
    obtain ⟨n3, hn3⟩ : ∃ n, n = ((shownO s.fObjects).map (transO (orderZ s.fTypes s.fObjects))).length := ⟨_, rfl⟩
    have HE := Lib.hid (fun W (hW : ScopeR Any W a1 a2 a3 a4 s) => by
      have h := sExport s.fName s.fTypes s.fObjects a1 a2 a3 a4 s.fImports.length s.fUses.length s.fImports.length s.fTypes.length s.fObjects.length s.fUses.length W hp.2.2.1.1 KK.out.lo (obs_ok hp) hW.types hW.objects
      unfold PostExp at h
      rw [← hn2, ← hn3] at h
      exact h)
    have HS := Lib.hid (fun W b2 b3 d2 d3 (hA : ScopeR Any W none b2 b3 none (expD s)) (hW : ScopeR Any W a1 a2 a3 a4 s) => by
      have h : Calls Tryz.prog 47 #[.agg #[.string s.fName, .slice none 0 0, .slice b2 (tableZ s.fTypes (orderZ s.fTypes s.fObjects)).length d2, .slice b3 ((shownO s.fObjects).map (transO (orderZ s.fTypes s.fObjects))).length d3, .slice none 0 0], .agg (scopeC s a1 a2 a3 a4 s.fImports.length s.fTypes.length s.fObjects.length s.fUses.length)] W (fun e w' => e = .returned (.bool (eqB (expD s) s)) ∧ Below W.heap.size W w') := sSameScope (expD s) s none b2 b3 none a1 a2 a3 a4 0 d2 d3 0 s.fImports.length s.fTypes.length s.fObjects.length s.fUses.length W (exp_k hp KK.out) hA hW
      rw [← hn2, ← hn3] at h
      exact h)
    clear hn2 hn3
    rw [q1]
    clear q1 q2 hp
    generalize eqB (expD s) s = qe at *
    obtain ⟨x0, x1, x2, x3, x4⟩ := box5 X1.out
    have hlt := X1.out.lt
    have RD := Lib.hid R1.out.drew
    go_wp2_with fail
    go_region_held3 (fun w' => w'.cell? ⟨w.heap.size, 0, none⟩ = some (.string s.fName) ∧ w'.cell? ⟨w.heap.size, 1, none⟩ = some (.slice a1 s.fImports.length s.fImports.length) ∧ w'.cell? ⟨w.heap.size, 2, none⟩ = some (.slice a2 s.fTypes.length s.fTypes.length) ∧ w'.cell? ⟨w.heap.size, 3, none⟩ = some (.slice a3 s.fObjects.length s.fObjects.length) ∧ w'.cell? ⟨w.heap.size, 4, none⟩ = some (.slice a4 s.fUses.length s.fUses.length))
      (first
        | assumption
        | exact ⟨x0, x1, x2, x3, x4⟩
        | (go_split_ands
           refine ⟨?_, ?_, ?_, ?_, ?_⟩ <;> (rw [hbu.cell (by simp at *; omega)]; assumption))
        | (go_split_ands
           refine ⟨?_, ?_, ?_, ?_, ?_⟩ <;> (rw [hbt.cell (by simp at *; omega)]; assumption)))
      (first
        | (go_at_call 28; refine (HE.out _ RD.out).mono ?_; rintro e wt ⟨b2, d2, b3, d3, rfl, _, _, ht, hob, hbt⟩; have hsz := hbt.size)
        | (go_at_call 47; refine (HS.out _ b2 b3 d2 d3 ⟨Rows.nil, ht.any, hob.any, Rows.nil⟩ (RD.out.below hbt)).mono ?_; rintro e wu ⟨rfl, hbu⟩))
    have hbx := (Below.refl w1.heap.size w1).drew.trans (hbt.trans (hbu.mono hbt.size))
    clear x0 x1 x2 x3 x4
    go_wp2_with fail
    go_ret2
    exact ⟨by rw [HQ.out.1, HQ.out.2]; rfl, B1.out.trans (hbx.mono B1.out.size)⟩
  · obtain ⟨q1, q2⟩ := isExp_no hp
    have HQ := Lib.hid (And.intro q1 q2)
    rw [q1]
    clear q1 q2 hp
    go_wp2_with fail
    go_ret2
    exact ⟨by rw [HQ.out.1, HQ.out.2]; rfl, B1.out⟩
theorem results_cto {P : Program} {fn : Func} {p u : Tmp} {ty : TypeId} {d : TypeDesc} (h : fn.results = #[.cell p ty, .tmp u]) (hu : P.underlying ty = some d) (hd : (match d with | .struct _ | .array _ _ => true | _ => false) = true)
    (tmps : Array Value) (w : World) (g : Nat) (cs : Array Value) (hp : tmps.getD p undef = .pointer (some ⟨g, 0, none⟩)) (t : TypeId) (hb : Box w g t cs) (n : Nat) (hi : (P.info? ty).map (·.size) = some n) (hn : cs.size = n) :
    (results fn tmps).run P w = .ok (.tuple #[.agg cs, tmps.getD u undef]) w := by
  have hl : (loadVar ty ⟨g, 0, none⟩).run P w = .ok (.agg cs) w := run_loadVar_row w g _ _ cs (0, 0) d hb hu hd (by rw [hi, hn])
  have hp2 : tmps[p]?.getD undef = .pointer (some ⟨g, 0, none⟩) := by simpa using hp
  simp only [results, h]
  simp [Result.andThen, hp2, asAddr, hl]
/-- What ExportOf tells of a scope. -/
def PostExpOf (s : ScopeD) (w : World) (e : Ending) (w' : World) : Prop := (¬ scopeP s ∧ e = .returned (.tuple #[.agg #[.string ByteArray.empty, .slice none 0 0, .slice none 0 0, .slice none 0 0, .slice none 0 0], .bool false]) ∧ Below w.heap.size w w') ∨ (scopeP s ∧ ∃ a2 c2 a3 c3, e = .returned (.tuple #[.agg #[.string s.fName, .slice none 0 0, .slice a2 (expD s).fTypes.length c2, .slice a3 (expD s).fObjects.length c3, .slice none 0 0], .bool true]) ∧ ((expD s).fTypes.length ≤ c2 ∧ c2 ≤ maxLen) ∧ ((expD s).fObjects.length ≤ c3 ∧ c3 ≤ maxLen) ∧ ScopeR (fun q => w.heap.size ≤ q) w' none a2 a3 none (expD s) ∧ Below w.heap.size w w')
theorem belowOnlyF {B r : Nat} {w w1 w2 : World} (h : Below B w w1) (hB : B ≤ w.heap.size) (ho : Only r w1 w2) (hr : B ≤ r) : Below B w w2 :=
  ⟨ho.os.trans h.os, ho.tape.trans h.tape, ho.output.trans h.output, Nat.le_trans h.size ho.size, fun q hq => by
    have hs := h.size
    exact (ho.block q (by omega) (fun e => by injection e with e; omega)).trans (h.block q hq)⟩

set_option maxHeartbeats 8000000 in
theorem sExportOf (s : ScopeD) (a1 a2 a3 a4 : Option Addr) (w : World) (K : ScopeK s) (hr : ScopeR Any w a1 a2 a3 a4 s) :
    Calls Tryz.prog 8 #[.agg (scopeC s a1 a2 a3 a4 s.fImports.length s.fTypes.length s.fObjects.length s.fUses.length)] w (PostExpOf s w) := by
  have B0 := Lib.hid (((Below.refl w.heap.size w).alloc (Nat.le_refl _) (.cells (scopeC s a1 a2 a3 a4 s.fImports.length s.fTypes.length s.fObjects.length s.fUses.length) 33)).alloc (by simp) (.cells #[.string ByteArray.empty, .slice none 0 0, .slice none 0 0, .slice none 0 0, .slice none 0 0] 33))
  have X0 := Lib.hid ((Box.new w 33 (scopeC s a1 a2 a3 a4 s.fImports.length s.fTypes.length s.fObjects.length s.fUses.length)).alloc (.cells #[.string ByteArray.empty, .slice none 0 0, .slice none 0 0, .slice none 0 0, .slice none 0 0] 33))
  have Y0 := Lib.hid (Box.new' (w.alloc (.cells (scopeC s a1 a2 a3 a4 s.fImports.length s.fTypes.length s.fObjects.length s.fUses.length) 33)) 33 #[.string ByteArray.empty, .slice none 0 0, .slice none 0 0, .slice none 0 0, .slice none 0 0] (g := w.heap.size + 1) (by simp))
  have R0 := Lib.hid (hr.below B0.out)
  have HG := Lib.hid (sl4Good s a1 a2 a3 a4 _ _ _ _ _ (K.m R0.out))
  have KK := Lib.hid K
  clear hr K
  go_enter Tryz.func8, Tryz.ntmps8
  go_wp2_with fail
  refine HG.out.mono ?_
  rintro e w1 ⟨rfl, hb⟩
  have B1 := Lib.hid (B0.out.trans (hb.mono B0.out.size))
  have X1 := Lib.hid (X0.out.below hb X0.out.lt)
  have Y1 := Lib.hid (Y0.out.below hb Y0.out.lt)
  have R1 := Lib.hid (R0.out.below hb)
  clear hb HG B0 X0 Y0 R0
  by_cases hp : scopeP s
  · have HP := Lib.hid hp
    rw [scopeB_true hp]
    obtain ⟨n2, hn2⟩ : ∃ n, n = (tableZ s.fTypes (orderZ s.fTypes s.fObjects)).length := ⟨_, rfl⟩
    obtain ⟨n3, hn3⟩ : ∃ n, n = ((shownO s.fObjects).map (transO (orderZ s.fTypes s.fObjects))).length := ⟨_, rfl⟩
    have HE := Lib.hid (fun W (hW : ScopeR Any W a1 a2 a3 a4 s) => by
      have h := sExport s.fName s.fTypes s.fObjects a1 a2 a3 a4 s.fImports.length s.fUses.length s.fImports.length s.fTypes.length s.fObjects.length s.fUses.length W hp.2.2.1.1 KK.out.lo (obs_ok hp) hW.types hW.objects
      unfold PostExp at h
      rw [← hn2, ← hn3] at h
      exact h)
    have N2 := Lib.hid (show n2 = (expD s).fTypes.length from hn2)
    have N3 := Lib.hid (show n3 = (expD s).fObjects.length from hn3)
    clear hn2 hn3 hp
    obtain ⟨x0, x1, x2, x3, x4⟩ := box5 X1.out
    go_wp2_with fail
    refine (HE.out _ R1.out).mono ?_
    rintro e w2 ⟨b2, d2, b3, d3, rfl, hl2, hl3, ht, hob, hbt⟩
    have Y2 := Lib.hid (Y1.out.below hbt Y1.out.lt)
    have B2 := Lib.hid (B1.out.trans (hbt.mono B1.out.size))
    have HT := Lib.hid (ht.mono (Q' := fun q => w.heap.size + 2 ≤ q) (fun q hq _ => by have := Y1.out.lt; omega))
    have HO := Lib.hid (hob.mono (Q' := fun q => w.heap.size + 2 ≤ q) (fun q hq _ => by have := Y1.out.lt; omega))
    have fr := Y2.out.free
    have zz0 : _ = some (Value.string ByteArray.empty) := Y2.out.cell 0
    have zz1 : _ = some (Value.slice none 0 0) := Y2.out.cell 1
    have zz2 : _ = some (Value.slice none 0 0) := Y2.out.cell 2
    have zz3 : _ = some (Value.slice none 0 0) := Y2.out.cell 3
    have zz4 : _ = some (Value.slice none 0 0) := Y2.out.cell 4
    clear x0 x1 x2 x3 x4 ht hob hbt
    go_wp2_with fail
    refine bodyPost_ret (results_cto rfl Tryz.underlying33 rfl _ _ (w.heap.size + 1) #[.string s.fName, .slice none 0 0, .slice b2 n2 d2, .slice b3 n3 d3, .slice none 0 0] rfl 33 ?qbox 5 (by kernel_rfl) rfl) rfl ?_
    case qbox => exact ((((Y2.out.set 0 _).set 1 _).set 2 _).set 3 _).set 4 _
    have hof : ∀ v0 v1 v2 v3 v4, Only (w.heap.size + 1) w2 (((((w2.setCell ⟨w.heap.size + 1, 0, none⟩ v0).setCell ⟨w.heap.size + 1, 1, none⟩ v1).setCell ⟨w.heap.size + 1, 2, none⟩ v2).setCell ⟨w.heap.size + 1, 3, none⟩ v3).setCell ⟨w.heap.size + 1, 4, none⟩ v4) := fun v0 v1 v2 v3 v4 => (((((Only.refl _ _).set 0 _).set 1 _).set 2 _).set 3 _).set 4 _
    refine .inr ⟨HP.out, b2, d2, b3, d3, by rw [← N2.out, ← N3.out]; rfl, ⟨by rw [← N2.out]; exact hl2.1, hl2.2⟩, ⟨by rw [← N3.out]; exact hl3.1, hl3.2⟩, ⟨Rows.nil, ?_, ?_, Rows.nil⟩, belowOnlyF B2.out (Nat.le_refl _) (hof _ _ _ _ _) (by omega)⟩
    · exact (Rows.keep HT.out (fun q hq hl => (hof _ _ _ _ _).block q hl (fun e => by injection e with e; omega)) (hof _ _ _ _ _).size).mono (fun q hq _ => by omega)
    · exact (Rows.keep HO.out (fun q hq hl => (hof _ _ _ _ _).block q hl (fun e => by injection e with e; omega)) (hof _ _ _ _ _).size).mono (fun q hq _ => by omega)
  · have HP := Lib.hid hp
    rw [scopeB_false hp]
    have fr := Y1.out.free
    have zz0 : _ = some (Value.string ByteArray.empty) := Y1.out.cell 0
    have zz1 : _ = some (Value.slice none 0 0) := Y1.out.cell 1
    have zz2 : _ = some (Value.slice none 0 0) := Y1.out.cell 2
    have zz3 : _ = some (Value.slice none 0 0) := Y1.out.cell 3
    have zz4 : _ = some (Value.slice none 0 0) := Y1.out.cell 4
    clear hp
    go_wp2_with fail
    refine bodyPost_ret (results_cto rfl Tryz.underlying33 rfl _ _ (w.heap.size + 1) #[.string ByteArray.empty, .slice none 0 0, .slice none 0 0, .slice none 0 0, .slice none 0 0] rfl 33 ?qbox 5 (by kernel_rfl) rfl) rfl ?_
    case qbox => exact ((((Y1.out.set 0 _).set 1 _).set 2 _).set 3 _).set 4 _
    have hof : ∀ v0 v1 v2 v3 v4, Only (w.heap.size + 1) w1 (((((w1.setCell ⟨w.heap.size + 1, 0, none⟩ v0).setCell ⟨w.heap.size + 1, 1, none⟩ v1).setCell ⟨w.heap.size + 1, 2, none⟩ v2).setCell ⟨w.heap.size + 1, 3, none⟩ v3).setCell ⟨w.heap.size + 1, 4, none⟩ v4) := fun v0 v1 v2 v3 v4 => (((((Only.refl _ _).set 0 _).set 1 _).set 2 _).set 3 _).set 4 _
    exact .inl ⟨HP.out, rfl, belowOnlyF B1.out (Nat.le_refl _) (hof _ _ _ _ _) (by omega)⟩
end Go.Proofs.YtbpbebhnledgnaaGreat
