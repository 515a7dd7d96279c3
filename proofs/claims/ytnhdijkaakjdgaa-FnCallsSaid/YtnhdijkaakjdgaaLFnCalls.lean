
/-
  What is proved: the walk of the law FnCalls. No condition beside what each theorem states.
-/
import Derived.Test.YtnhdijkaakjdgaaDrawA
import Derived.Test.YtnhdijkaakjdgaaPutB
import Derived.Test.YtnhdijkaakjdgaaCallS
import Derived.Deep.RegionHeld3
namespace Go.Proofs.Ytnhdijkaakjdgaa
open Go.ChangeShapes Go.WideShapes Go.ChangeAt Go.RowKit
set_option maxRecDepth 100000

theorem grownBelow {B : Nat} {w w1 w2 : World} {row : Option Nat} (h : Below B w w1) (hB : B ≤ w1.heap.size) (hg : w1.grownBy w2 row) (hr : ∀ q, row = some q → B ≤ q) : Below B w w2 :=
  ⟨hg.os.trans h.os, hg.tape.trans h.tape, hg.output.trans h.output, Nat.le_trans h.size hg.size, fun q hq => (hg.block q (by omega) (fun e => by have := hr q e.symm; omega)).trans (h.block q hq)⟩
theorem calls_own {s : ScopeD} {k : Nat} (hk : k < s.fObjects.length) {ys : List Int} (h : callP s (k : Int) ys) : callOk s (k : Int) (s.fObjects[k].fParams.map (·.fType)) = true ∧ callA s (k : Int) (s.fObjects[k].fParams.map (·.fType)) = true := by
  obtain ⟨k', hk', e, h4⟩ := h.2.1
  have e : k = k' := by omega
  subst e
  obtain ⟨p1, p2⟩ := call_params h.1 hk h4
  have hc : callP s (k : Int) (s.fObjects[k].fParams.map (·.fType)) := ⟨h.1, ⟨k, hk, rfl, h4⟩, by rw [List.length_map]; exact p1, fun y hy => by
    obtain ⟨p, hp, rfl⟩ := List.mem_map.1 hy
    exact p2 p hp⟩
  obtain ⟨c1, c2⟩ := call_in hc hk
  refine ⟨c1, c2.2 ⟨by rw [List.length_map], fun i hi h' => ?_⟩⟩
  obtain ⟨q1, q2⟩ := p2 _ (List.getElem_mem hi)
  rw [List.getElem_map]
  obtain ⟨t, ht⟩ := Int.eq_ofNat_of_zero_le q1
  have htl : t < s.fTypes.length := by omega
  exact ⟨t, t, htl, htl, ht, ht, fun _ => rfl, fun _ => .inl rfl⟩
theorem calls_told {s : ScopeD} {k : Nat} (hk : k < s.fObjects.length) {ys : List Int} (h : callP s (k : Int) ys) (ha : callA s (k : Int) ys = true) : ys.length = s.fObjects[k].fParams.length ∧ ∀ i (hi : i < s.fObjects[k].fParams.length) (h' : i < ys.length), s.fObjects[k].fParams[i].fByVar = true → ys[i] = s.fObjects[k].fParams[i].fType := by
  obtain ⟨e, hp⟩ := (call_in h hk).2.1 ha
  refine ⟨e.symm, fun i hi h' hb => ?_⟩
  obtain ⟨t, u, _, _, e1, e2, h1, _⟩ := hp i hi h'
  rw [e1, e2, h1 hb]

-- shell: FnCalls
set_option maxHeartbeats 32000000 in
theorem law_FnCalls (a : Option Addr) (len cap : Nat) (zs : List Int) (a' : Option Addr) (len' cap' : Nat) (zs' : List Int) (w : World) (h : RowIn .u8 w a len cap zs) (h' : RowIn .u8 w a' len' cap' zs') :
    Calls Try.prog 4 #[.slice a len cap, .slice a' len' cap'] w fun e w' => e = .returned (.bool true) ∧ Below w.heap.size w w' := by
  by_cases hbig : 1048576 < len + len'
  · have l1 := h.len
    clear h h'
    go_enter Try.func4, Try.ntmps4
    go_wp2_with (go_at_call 6; refine (lBig_yes _ _ _ _ _ _ _ hbig l1).mono ?_; rintro e w' ⟨rfl, rfl⟩)
    go_ret
    exact ⟨rfl, Below.refl _ _⟩
  have H := Lib.hid (h.code (by omega))
  have Hcode0 := Lib.hid (h'.code (by omega))
  clear h h'
  go_enter Try.func4, Try.ntmps4
  go_wp2_with (go_at_call 6; refine (lBig_no _ _ _ _ _ _ _ (by omega)).mono ?_; rintro e w' ⟨rfl, rfl⟩)
  refine (dMayCall a len cap _ H.out).mono ?_
  rintro e v1 ⟨s, p1, p2, p3, p4, k1, k2, k3, k4, n, ya, yc, ys, rfl, hsh, hyl, hny, hsm, hbv⟩
  have BV1 := Lib.hid hbv
  have BA := (Below.refl v1.heap.size v1).alloc (Nat.le_refl _) (.cells (scopeC s p1 p2 p3 p4 k1 k2 k3 k4) 36)
  have XV := Lib.hid (Box.new v1 36 (scopeC s p1 p2 p3 p4 k1 k2 k3 k4))
  have MV := Lib.hid (hsm.below BA)
  have NV := Lib.hid (hny.below BA)
  have BV := Lib.hid (BV1.out.trans (BA.mono BV1.out.size))
  have HSM := Lib.hid hsh.mo
  clear hsh hny hsm hbv BA BV1 H
  go_wp2_with fail
  obtain ⟨sb, hsb⟩ : ∃ z, z = v1.heap.size := ⟨_, rfl⟩
  rw [← hsb] at XV
  rw [← hsb]
  clear hsb
  generalize v1.alloc (.cells (scopeC s p1 p2 p3 p4 k1 k2 k3 k4) 36) = u1 at *
  have CI := Lib.hid (fun W (hM : ScopeM W p1 p2 p3 p4 k1 k2 k3 k4 s) (hY : Nums W ya ys) => iMayCall s n p1 p2 p3 p4 k1 k2 k3 k4 ya yc ys W hM (by omega) hY)
  have CS := Lib.hid (fun W (hM : ScopeM W p1 p2 p3 p4 k1 k2 k3 k4 s) (hY : Nums W ya ys) => sMayCall s n p1 p2 p3 p4 k1 k2 k3 k4 ya yc ys W hM (by omega) hY)
  by_cases hp : callP s n ys
  · obtain ⟨kk, hkk, rfl, hk4⟩ := hp.2.1
    have CO := Lib.hid (calls_own hkk hp)
    have CT := Lib.hid (calls_told hkk hp)
    have CW := Lib.hid (fun (oa : Option Addr) (oc : Nat) W (hM : ScopeM W p1 p2 p3 p4 k1 k2 k3 k4 s) (hY : Nums W oa (s.fObjects[kk].fParams.map (·.fType))) (hl : s.fObjects[kk].fParams.length ≤ 1048576) => by
      have h := iMayCall s (kk : Int) p1 p2 p3 p4 k1 k2 k3 k4 oa oc _ W hM (by rw [List.length_map]; exact hl) hY
      rw [List.length_map] at h
      exact h)
    rw [CO.out.1, CO.out.2] at CW
    have hok := (call_in hp hkk).1
    rw [hok] at CI CS
    clear CO hok hp hk4
    generalize callA s (kk : Int) ys = qa at *
    have hps := (HSM.out _ (List.getElem_mem hkk)).2.1
    obtain ⟨x0, x1, x2, x3, x4⟩ := box5 XV.out
    go_wp2_with fail
    clear x0 x1 x2 x3 x4
    refine (CI.out _ MV.out NV.out).mono ?_
    rintro e u2 ⟨rfl, hb⟩
    have X2 := Lib.hid (XV.out.below hb XV.out.lt)
    have M2 := Lib.hid (MV.out.below hb)
    have N2 := Lib.hid (NV.out.below hb)
    have BU2 := Lib.hid (BV.out.trans (hb.mono BV.out.size))
    clear hb XV MV NV BV CI
    obtain ⟨x0, x1, x2, x3, x4⟩ := box5 X2.out
    go_wp2_with fail
    clear x0 x1 x2 x3 x4
    refine (CS.out _ M2.out N2.out).mono ?_
    rintro e u3 ⟨rfl, hb⟩
    have XC3 := Lib.hid (X2.out.below hb X2.out.lt)
    have MC3 := Lib.hid (M2.out.below hb)
    have NC3 := Lib.hid (N2.out.below hb)
    have BC3 := Lib.hid (BU2.out.trans (hb.mono BU2.out.size))
    clear hb X2 M2 N2 BU2 CS
    have x3 : _ = some (Value.slice p3 s.fObjects.length k3) := XC3.out.cell 3
    obtain ⟨ob, oo, cs, hp3, _, _, hc, pa, pc, rfl, hpr, _⟩ := MC3.out.r.objects kk hkk
    subst hp3
    have hn6 : objectS.n = 6 := rfl
    rw [hn6] at hc
    have d5 := hc 5 (by decide)
    simp at d5
    have hge : decide ((kk : Int) ≥ 0) = true := decide_eq_true (by omega)
    have hlt : decide ((kk : Int) < (s.fObjects.length : Int)) = true := decide_eq_true (by omega)
    have hpr := hpr.any
    obtain ⟨ps, hpsd⟩ : ∃ z, z = s.fObjects[kk].fParams := ⟨_, rfl⟩
    rw [← hpsd] at hps hpr d5 CT CW
    have HPS := Lib.hid hpsd
    clear hpsd hc
    have PR := Lib.hid hpr
    clear hpr
    have hqq : (qa != qa) = false := bne_self_eq_false' _
    go_wp2_with fail
    go_loopw [76, 12] (fun i av wr => ∃ (q : Nat) (os : List Int), i = .int .i64 q ∧ os.length = q ∧ os = (ps.map (·.fType)).take q ∧ q ≤ ps.length ∧ OwnG intS 3 u3.heap.size Nowhere wr av os ∧ Below u3.heap.size u3 wr) (fun i _ _ => ps.length - (intOf i).toNat)
    case atStart => exact ⟨0, [], rfl, rfl, by simp, by omega, OwnG.nil, Below.refl _ _⟩
    case round =>
      obtain ⟨wp, hwp⟩ : ∃ z, z = wr := ⟨_, rfl⟩
      subst hwp
      obtain ⟨q, os, rfl, hoq, hot, hqp, hown, hbel⟩ := hrel
      have OY := Lib.hid hown
      have BL := Lib.hid hbel
      clear hown hbel x3 d5
      by_cases hlt2 : q < ps.length
      · have hrow := Rows.below PR.out BL.out
        obtain ⟨pb, po, cs, hpa, _, _, hc, hat⟩ := hrow q hlt2
        obtain rfl : cs = [.string ps[q].fName, .bool ps[q].fByVar, .int .i64 ps[q].fType] := hat
        subst hpa
        have hn3 : paramS.n = 3 := rfl
        rw [hn3] at hc
        have d0 := hc 0 (by decide)
        have d1 := hc 1 (by decide)
        have d2 := hc 2 (by decide)
        simp at d0 d1 d2
        have hot2 : os ++ [ps[q].fType] = (ps.map (·.fType)).take (q + 1) := by
          rw [List.take_add_one, ← hot, List.getElem?_eq_getElem (by rw [List.length_map]; exact hlt2), List.getElem_map]
          rfl
        clear hc hot
        generalize hty : ps[q].fType = ty at *
        generalize ps[q].fName = pn at *
        generalize ps[q].fByVar = pv at *
        clear hty
        obtain ⟨i0, hi, hz0, hz1, hz2⟩ := info_parts infoInt
        have Hi := Lib.hid (And.intro hi (And.intro hz0 (And.intro hz1 hz2)))
        have hylt := OY.out.lt
        have hbs := BL.out.size
        have HOT := Lib.hid hot2
        clear hi hz0 hz1 hz2 hot2
        go_wp2_with (at_builtin; refine wpList_pushG rfl _ _ _ rfl intS 3 i0 (.int .i64 0) 8 Try.underlying37 ?q1 ?q2 ?q3 ?q4 rfl (by decide) (by omega) u3.heap.size Nowhere _ _ os rfl ?q5 ty [.int .i64 ty] _ _ rfl ?q6 ?q7 ?q8 ?q9 ?q10 ?_)
        case q1 => exact Hi.out.1
        case q2 => exact Hi.out.2.1
        case q3 => exact Hi.out.2.2.1
        case q4 => exact Hi.out.2.2.2
        case q5 => exact (OY.out.alloc _).alloc _
        case q6 =>
          intro j _
          refine Eq.trans ((Box.new' _ 3 #[.int .i64 ty] (by simp)).cell j) ?_
          simp
        case q7 => exact rfl
        case q8 =>
          intro y hy
          rw [List.mem_singleton.1 hy]
          rfl
        case q9 => omega
        case q10 => simp; omega
        intro v9 wn hown9 hg9 _
        have BN := Lib.hid (grownBelow ((BL.out.alloc hbs (.cells #[.string pn, .bool pv, .int .i64 ty] 45)).alloc (by simp; omega) (.cells #[.int .i64 ty] 3)) (by simp; omega) hg9 (fun r hr => (hylt r hr).1))
        have ON := Lib.hid hown9
        clear hown9 hg9 OY BL d0 d1 d2 hylt
        go_wp2_with fail
        exact ⟨⟨q + 1, _, by congr 1, by simp; omega, HOT.out, by omega, ON.out, BN.out⟩, by simp [intOf]; omega⟩
      · obtain rfl : q = ps.length := by omega
        obtain rfl : os = ps.map (·.fType) := by rw [hot]; exact List.take_of_length_le (by simp)
        obtain ⟨oa, oc, rfl, _, _, hor⟩ := OwnG.rows (Q := Any) OY.out (fun _ _ _ => trivial) (fun _ _ => trivial)
        have ON := Lib.hid (nums_of_rows hor)
        have XL := Lib.hid (XC3.out.below BL.out XC3.out.lt)
        have ML := Lib.hid (MC3.out.below BL.out)
        have NL := Lib.hid (NC3.out.below BL.out)
        have PL := Lib.hid (PR.out.below BL.out)
        have BC4 := Lib.hid (BC3.out.trans (BL.out.mono BC3.out.size))
        clear hor hot OY XC3 MC3 NC3 PR BC3 BL
        obtain ⟨x0, x1, x2, x3, x4⟩ := box5 XL.out
        go_wp2_with fail
        clear x0 x1 x2 x3 x4
        refine (CW.out _ _ _ ML.out ON.out (by omega)).mono ?_
        rintro e u5 ⟨rfl, hb⟩
        have X5 := Lib.hid (XL.out.below hb XL.out.lt)
        have M5 := Lib.hid (ML.out.below hb)
        have N5 := Lib.hid (NL.out.below hb)
        have P5 := Lib.hid (PL.out.below hb)
        have BC5 := Lib.hid (BC4.out.trans (hb.mono BC4.out.size))
        clear hb XL ML NL PL BC4 CW ON
        have hml : ((ps.map (·.fType)).length : Int) = (ps.length : Int) := by rw [List.length_map]
        have x3 : _ = some (Value.slice (some ⟨ob, oo, none⟩) s.fObjects.length k3) := X5.out.cell 3
        obtain ⟨ob2, oo2, cs, hp3, _, _, hc, pa5, pc5, rfl, hpr5, _⟩ := M5.out.r.objects kk hkk
        have hn6 : objectS.n = 6 := rfl
        rw [hn6] at hc
        cases hp3
        have d5 := hc 5 (by decide)
        simp at d5
        rw [← HPS.out] at hpr5 d5
        have P6 := Lib.hid hpr5.any
        clear hc P5 hpr5
        have HT := Lib.hid CT.out
        clear CT
        cases qa
        · have hnl : True := trivial
          have HS : True := trivial
          go_wp2_with fail
          clear hnl x3 d5
          go_loopw [116] (fun i wr => ∃ q : Nat, i = .int .i64 q ∧ q ≤ ps.length ∧ Below u5.heap.size u5 wr) (fun i _ => ps.length - (intOf i).toNat)
          case atStart => exact ⟨0, rfl, by omega, Below.refl _ _⟩
          case round =>
            obtain ⟨wl, hwl⟩ : ∃ z, z = wr := ⟨_, rfl⟩
            subst hwl
            obtain ⟨q, rfl, hq, hbel⟩ := hrel
            have BL := Lib.hid hbel
            clear hbel
            by_cases hlt3 : q < ps.length
            · obtain ⟨pb, po, cs, hpa, _, hpbl, hc, hat⟩ := (Rows.below P6.out BL.out) q hlt3
              obtain rfl : cs = [.string ps[q].fName, .bool ps[q].fByVar, .int .i64 ps[q].fType] := hat
              subst hpa
              have hn3 : paramS.n = 3 := rfl
              rw [hn3] at hc
              have d0 := hc 0 (by decide)
              have d1 := hc 1 (by decide)
              have d2 := hc 2 (by decide)
              simp at d0 d1 d2
              clear hc
              generalize ps[q].fType = ty at *
              generalize ps[q].fName = pn at *
              generalize ps[q].fByVar = pv at *
              have XP := Lib.hid (Box.new wl 45 #[.string pn, .bool pv, .int .i64 ty])
              have y1 : _ = some (Value.bool pv) := XP.out.cell 1
              have y2 : _ = some (Value.int .i64 ty) := XP.out.cell 2
              have BN := Lib.hid ((BL.out.alloc BL.out.size (.cells #[.string pn, .bool pv, .int .i64 ty] 45)).drew)
              go_wp2_with fail
              refine wp_region_held_drew (S := fun w' => w'.cell? ⟨wl.heap.size, 1, none⟩ = some (.bool pv)) (by kernel_rfl) ?_ (fun hHeld => ?_)
              · try dsimp only
                exact y1
              refine wpAnyH_take (i := 0) (oi := { dst := some 121, op := Op.move (Operand.tmp 8), type := 4, pos := "laws.go:1697", after := #[], guard := none }) (v := .bool false) rfl (by kernel_rfl) (by kernel_rfl) (by kernel_rfl) (fun _ _ _ h => h) (Or.inl ⟨by rfl, ?_⟩) (by assumption) ?_
              · intro wS hSw
                try dsimp only at hSw
                go_simp
              try simp only [Act.put, List.setIfInBounds_toArray, List.set_cons_zero, List.set_cons_succ]
              refine wpAnyH_take (i := 1) (oi := { dst := some 122, op := Op.move (Operand.tmp 121), type := 4, pos := "laws.go:1697", after := #[{ on := 0, ground := Ground.data }], guard := none }) (v := .bool false) rfl (by kernel_rfl) (by kernel_rfl) (by kernel_rfl) (fun _ _ _ h => h) (Or.inl ⟨by rfl, ?_⟩) (by assumption) ?_
              · intro wS hSw
                try dsimp only at hSw
                go_simp
              try simp only [Act.put, List.setIfInBounds_toArray, List.set_cons_zero, List.set_cons_succ]
              refine wpAnyH_take (i := 2) (oi := { dst := some 123, op := Op.fieldAddr 45 (Operand.tmp 18) 1, type := 0, pos := "laws.go:1697", after := #[{ on := 1, ground := Ground.guard }], guard := some (1, true) }) (v := undef) rfl (by kernel_rfl) (by kernel_rfl) (by kernel_rfl) (fun _ _ _ h => h) (Or.inr ⟨by rfl, rfl⟩) (by assumption) ?_
              try simp only [Act.put, List.setIfInBounds_toArray, List.set_cons_zero, List.set_cons_succ]
              refine wpAnyH_take (i := 3) (oi := { dst := some 124, op := Op.load 4 (Operand.tmp 123), type := 4, pos := "laws.go:1697", after := #[{ on := 2, ground := Ground.data }, { on := 1, ground := Ground.guard }], guard := some (1, true) }) (v := undef) rfl (by kernel_rfl) (by kernel_rfl) (by kernel_rfl) (fun _ _ _ h => h) (Or.inr ⟨by rfl, rfl⟩) (by assumption) ?_
              try simp only [Act.put, List.setIfInBounds_toArray, List.set_cons_zero, List.set_cons_succ]
              refine wpAnyH_take (i := 4) (oi := { dst := some 125, op := Op.pick (Operand.tmp 122) (Operand.tmp 124) (Operand.const (Value.bool false)), type := 4, pos := "laws.go:1697", after := #[{ on := 1, ground := Ground.data }, { on := 3, ground := Ground.data }], guard := none }) (v := .bool false) rfl (by kernel_rfl) (by kernel_rfl) (by kernel_rfl) (fun _ _ _ h => h) (Or.inl ⟨by rfl, ?_⟩) (by assumption) ?_
              · intro wS hSw
                try dsimp only at hSw
                go_simp
              try simp only [Act.put, List.setIfInBounds_toArray, List.set_cons_zero, List.set_cons_succ]
              refine wpAnyH_take (i := 5) (oi := { dst := some 126, op := Op.move (Operand.tmp 125), type := 4, pos := "laws.go:1697", after := #[{ on := 4, ground := Ground.data }, { on := 1, ground := Ground.chain }], guard := none }) (v := .bool false) rfl (by kernel_rfl) (by kernel_rfl) (by kernel_rfl) (fun _ _ _ h => h) (Or.inl ⟨by rfl, ?_⟩) (by assumption) ?_
              · intro wS hSw
                try dsimp only at hSw
                go_simp
              try simp only [Act.put, List.setIfInBounds_toArray, List.set_cons_zero, List.set_cons_succ]
              refine wpAnyH_take (i := 6) (oi := { dst := some 127, op := Op.move (Operand.tmp 17), type := 3, pos := "laws.go:1697", after := #[{ on := 5, ground := Ground.guard }], guard := some (5, true) }) (v := undef) rfl (by kernel_rfl) (by kernel_rfl) (by kernel_rfl) (fun _ _ _ h => h) (Or.inr ⟨by rfl, rfl⟩) (by assumption) ?_
              try simp only [Act.put, List.setIfInBounds_toArray, List.set_cons_zero, List.set_cons_succ]
              refine wpAnyH_take (i := 7) (oi := { dst := some 128, op := Op.move (Operand.tmp 7), type := 37, pos := "laws.go:1697", after := #[{ on := 5, ground := Ground.guard }], guard := some (5, true) }) (v := undef) rfl (by kernel_rfl) (by kernel_rfl) (by kernel_rfl) (fun _ _ _ h => h) (Or.inr ⟨by rfl, rfl⟩) (by assumption) ?_
              try simp only [Act.put, List.setIfInBounds_toArray, List.set_cons_zero, List.set_cons_succ]
              refine wpAnyH_take (i := 8) (oi := { dst := some 129, op := Op.call { callee := Callee.builtin Builtin.len, args := #[Operand.tmp 128], argTypes := #[37] }, type := 3, pos := "laws.go:1697", after := #[{ on := 7, ground := Ground.data }, { on := 5, ground := Ground.guard }], guard := some (5, true) }) (v := undef) rfl (by kernel_rfl) (by kernel_rfl) (by kernel_rfl) (fun _ _ _ h => h) (Or.inr ⟨by rfl, rfl⟩) (by assumption) ?_
              try simp only [Act.put, List.setIfInBounds_toArray, List.set_cons_zero, List.set_cons_succ]
              refine wpAnyH_take (i := 9) (oi := { dst := some 130, op := Op.binOp BinOp.lss 3 (Operand.tmp 127) (Operand.tmp 129) 3, type := 4, pos := "laws.go:1697", after := #[{ on := 6, ground := Ground.data }, { on := 8, ground := Ground.data }, { on := 5, ground := Ground.guard }], guard := some (5, true) }) (v := undef) rfl (by kernel_rfl) (by kernel_rfl) (by kernel_rfl) (fun _ _ _ h => h) (Or.inr ⟨by rfl, rfl⟩) (by assumption) ?_
              try simp only [Act.put, List.setIfInBounds_toArray, List.set_cons_zero, List.set_cons_succ]
              refine wpAnyH_take (i := 10) (oi := { dst := some 131, op := Op.pick (Operand.tmp 126) (Operand.tmp 130) (Operand.const (Value.bool false)), type := 4, pos := "laws.go:1697", after := #[{ on := 5, ground := Ground.data }, { on := 9, ground := Ground.data }], guard := none }) (v := .bool false) rfl (by kernel_rfl) (by kernel_rfl) (by kernel_rfl) (fun _ _ _ h => h) (Or.inl ⟨by rfl, ?_⟩) (by assumption) ?_
              · intro wS hSw
                try dsimp only at hSw
                go_simp
              try simp only [Act.put, List.setIfInBounds_toArray, List.set_cons_zero, List.set_cons_succ]
              refine wpAnyH_take (i := 11) (oi := { dst := some 132, op := Op.move (Operand.tmp 131), type := 4, pos := "laws.go:1697", after := #[{ on := 10, ground := Ground.data }, { on := 5, ground := Ground.chain }], guard := none }) (v := .bool false) rfl (by kernel_rfl) (by kernel_rfl) (by kernel_rfl) (fun _ _ _ h => h) (Or.inl ⟨by rfl, ?_⟩) (by assumption) ?_
              · intro wS hSw
                try dsimp only at hSw
                go_simp
              try simp only [Act.put, List.setIfInBounds_toArray, List.set_cons_zero, List.set_cons_succ]
              refine wpAnyH_take (i := 12) (oi := { dst := some 133, op := Op.move (Operand.tmp 7), type := 37, pos := "laws.go:1697", after := #[{ on := 11, ground := Ground.guard }], guard := some (11, true) }) (v := undef) rfl (by kernel_rfl) (by kernel_rfl) (by kernel_rfl) (fun _ _ _ h => h) (Or.inr ⟨by rfl, rfl⟩) (by assumption) ?_
              try simp only [Act.put, List.setIfInBounds_toArray, List.set_cons_zero, List.set_cons_succ]
              refine wpAnyH_take (i := 13) (oi := { dst := some 134, op := Op.move (Operand.tmp 17), type := 3, pos := "laws.go:1697", after := #[{ on := 11, ground := Ground.guard }], guard := some (11, true) }) (v := undef) rfl (by kernel_rfl) (by kernel_rfl) (by kernel_rfl) (fun _ _ _ h => h) (Or.inr ⟨by rfl, rfl⟩) (by assumption) ?_
              try simp only [Act.put, List.setIfInBounds_toArray, List.set_cons_zero, List.set_cons_succ]
              refine wpAnyH_take (i := 14) (oi := { dst := some 135, op := Op.indexAddr 37 (Operand.tmp 133) (Operand.tmp 134), type := 0, pos := "laws.go:1697", after := #[{ on := 12, ground := Ground.data }, { on := 13, ground := Ground.data }, { on := 11, ground := Ground.guard }], guard := some (11, true) }) (v := undef) rfl (by kernel_rfl) (by kernel_rfl) (by kernel_rfl) (fun _ _ _ h => h) (Or.inr ⟨by rfl, rfl⟩) (by assumption) ?_
              try simp only [Act.put, List.setIfInBounds_toArray, List.set_cons_zero, List.set_cons_succ]
              refine wpAnyH_take (i := 15) (oi := { dst := some 136, op := Op.load 3 (Operand.tmp 135), type := 3, pos := "laws.go:1697", after := #[{ on := 14, ground := Ground.data }, { on := 11, ground := Ground.guard }], guard := some (11, true) }) (v := undef) rfl (by kernel_rfl) (by kernel_rfl) (by kernel_rfl) (fun _ _ _ h => h) (Or.inr ⟨by rfl, rfl⟩) (by assumption) ?_
              try simp only [Act.put, List.setIfInBounds_toArray, List.set_cons_zero, List.set_cons_succ]
              refine wpAnyH_take (i := 16) (oi := { dst := some 137, op := Op.fieldAddr 45 (Operand.tmp 18) 2, type := 0, pos := "laws.go:1697", after := #[{ on := 11, ground := Ground.guard }], guard := some (11, true) }) (v := undef) rfl (by kernel_rfl) (by kernel_rfl) (by kernel_rfl) (fun _ _ _ h => h) (Or.inr ⟨by rfl, rfl⟩) (by assumption) ?_
              try simp only [Act.put, List.setIfInBounds_toArray, List.set_cons_zero, List.set_cons_succ]
              refine wpAnyH_take (i := 17) (oi := { dst := some 138, op := Op.load 3 (Operand.tmp 137), type := 3, pos := "laws.go:1697", after := #[{ on := 16, ground := Ground.data }, { on := 11, ground := Ground.guard }], guard := some (11, true) }) (v := undef) rfl (by kernel_rfl) (by kernel_rfl) (by kernel_rfl) (fun _ _ _ h => h) (Or.inr ⟨by rfl, rfl⟩) (by assumption) ?_
              try simp only [Act.put, List.setIfInBounds_toArray, List.set_cons_zero, List.set_cons_succ]
              refine wpAnyH_take (i := 18) (oi := { dst := some 139, op := Op.binOp BinOp.neq 3 (Operand.tmp 136) (Operand.tmp 138) 3, type := 4, pos := "laws.go:1697", after := #[{ on := 15, ground := Ground.data }, { on := 17, ground := Ground.data }, { on := 11, ground := Ground.guard }], guard := some (11, true) }) (v := undef) rfl (by kernel_rfl) (by kernel_rfl) (by kernel_rfl) (fun _ _ _ h => h) (Or.inr ⟨by rfl, rfl⟩) (by assumption) ?_
              try simp only [Act.put, List.setIfInBounds_toArray, List.set_cons_zero, List.set_cons_succ]
              refine wpAnyH_take (i := 19) (oi := { dst := some 140, op := Op.pick (Operand.tmp 132) (Operand.tmp 139) (Operand.const (Value.bool false)), type := 4, pos := "laws.go:1697", after := #[{ on := 11, ground := Ground.data }, { on := 18, ground := Ground.data }], guard := none }) (v := .bool false) rfl (by kernel_rfl) (by kernel_rfl) (by kernel_rfl) (fun _ _ _ h => h) (Or.inl ⟨by rfl, ?_⟩) (by assumption) ?_
              · intro wS hSw
                try dsimp only at hSw
                go_simp
              try simp only [Act.put, List.setIfInBounds_toArray, List.set_cons_zero, List.set_cons_succ]
              refine wpAnyH_done (by kernel_rfl) ?_ _
              go_wp2_with fail
              exact ⟨⟨q + 1, by congr 1, by omega, BN.out⟩, by simp [intOf]; omega⟩
            · have BC3 := Lib.hid (BC5.out.trans (BL.out.mono BC5.out.size))
              clear BC5 BL HT HS X5 M5 N5 P6 HSM
              go_wp2_with fail
              refine (dMayPut a' len' cap' _ (Hcode0.out.below BC3.out)).mono ?_
              rintro e w1 ⟨a1, n1, c1, x, y, rfl, x0, x9, y0, y9, ⟨l, hA, hcA, hcmA, hA9, hrA, hsA, hbw⟩⟩
              subst hA
              have Hm := Lib.hid (show ∀ t ∈ l, t.mod from fun t ht => (hsA t ht).md)
              have R1 := Lib.hid hrA.any
              have B1 := Lib.hid (BC3.out.trans (hbw.mono BC3.out.size))
              clear hrA hsA hbw BC3 Hcode0
              have AI := Lib.hid (fun W hW => iMayPut a1 c1 l x y W (by omega) hcA hcmA Hm.out hW)
              have AS := Lib.hid (fun W hW => sMayPut a1 c1 l x y W (by omega) hcA hcmA Hm.out hW)
              generalize mayA l x y = ra at *
              generalize mayOk l x y = ro at *
              go_wp2_with fail
              refine (AI.out _ R1.out).mono ?_
              rintro e w2 ⟨rfl, hb⟩
              have R2 := Lib.hid (R1.out.below hb)
              have B2 := Lib.hid (B1.out.trans (hb.mono B1.out.size))
              clear hb
              go_wp2_with fail
              refine (AS.out _ R2.out).mono ?_
              rintro e w3 ⟨rfl, hb⟩
              have B3 := Lib.hid (B2.out.trans (hb.mono B2.out.size))
              clear hb AI AS R1 R2 B1 B2
              have e1 : (ra == ra) = true := beq_self_eq_true _
              have e2 : (ro == ro) = true := beq_self_eq_true _
              go_wp2_with fail
              go_ret
              exact ⟨rfl, B3.out⟩
        · have hyp := (HT.out rfl).1
          have hnl : ((ys.length : Int) != (ps.length : Int)) = false := by rw [bne_eq_false_iff_eq]; omega
          have HS := Lib.hid (HT.out rfl).2
          go_wp2_with fail
          clear hnl x3 d5
          go_loopw [116] (fun i wr => ∃ q : Nat, i = .int .i64 q ∧ q ≤ ps.length ∧ Below u5.heap.size u5 wr) (fun i _ => ps.length - (intOf i).toNat)
          case atStart => exact ⟨0, rfl, by omega, Below.refl _ _⟩
          case round =>
            obtain ⟨wl, hwl⟩ : ∃ z, z = wr := ⟨_, rfl⟩
            subst hwl
            obtain ⟨q, rfl, hq, hbel⟩ := hrel
            have BL := Lib.hid hbel
            clear hbel
            by_cases hlt3 : q < ps.length
            · obtain ⟨pb, po, cs, hpa, _, hpbl, hc, hat⟩ := (Rows.below P6.out BL.out) q hlt3
              obtain rfl : cs = [.string ps[q].fName, .bool ps[q].fByVar, .int .i64 ps[q].fType] := hat
              subst hpa
              have hn3 : paramS.n = 3 := rfl
              rw [hn3] at hc
              have d0 := hc 0 (by decide)
              have d1 := hc 1 (by decide)
              have d2 := hc 2 (by decide)
              simp at d0 d1 d2
              clear hc
              have hq2 : q < ys.length := by omega
              have HQ := Lib.hid (HS.out q hlt3 hq2)
              obtain ⟨yb, yo, hya, hyb, hyc⟩ := (N5.out.below BL.out) q hq2
              generalize ps[q].fType = ty at *
              generalize ps[q].fName = pn at *
              generalize ps[q].fByVar = pv at *
              cases pv
              · have XP := Lib.hid (Box.new wl 45 #[.string pn, .bool false, .int .i64 ty])
                have y1 : _ = some (Value.bool false) := XP.out.cell 1
                have y2 : _ = some (Value.int .i64 ty) := XP.out.cell 2
                have BN := Lib.hid ((BL.out.alloc BL.out.size (.cells #[.string pn, .bool false, .int .i64 ty] 45)).drew)
                go_wp2_with fail
                refine wp_region_held_drew (S := fun w' => w'.cell? ⟨wl.heap.size, 1, none⟩ = some (.bool false)) (by kernel_rfl) ?_ (fun hHeld => ?_)
                · try dsimp only
                  exact y1
                refine wpAnyH_take (i := 0) (oi := { dst := some 121, op := Op.move (Operand.tmp 8), type := 4, pos := "laws.go:1697", after := #[], guard := none }) (v := .bool true) rfl (by kernel_rfl) (by kernel_rfl) (by kernel_rfl) (fun _ _ _ h => h) (Or.inl ⟨by rfl, ?_⟩) (by assumption) ?_
                · intro wS hSw
                  try dsimp only at hSw
                  go_simp
                try simp only [Act.put, List.setIfInBounds_toArray, List.set_cons_zero, List.set_cons_succ]
                refine wpAnyH_take (i := 1) (oi := { dst := some 122, op := Op.move (Operand.tmp 121), type := 4, pos := "laws.go:1697", after := #[{ on := 0, ground := Ground.data }], guard := none }) (v := .bool true) rfl (by kernel_rfl) (by kernel_rfl) (by kernel_rfl) (fun _ _ _ h => h) (Or.inl ⟨by rfl, ?_⟩) (by assumption) ?_
                · intro wS hSw
                  try dsimp only at hSw
                  go_simp
                try simp only [Act.put, List.setIfInBounds_toArray, List.set_cons_zero, List.set_cons_succ]
                refine wpAnyH_take (i := 2) (oi := { dst := some 123, op := Op.fieldAddr 45 (Operand.tmp 18) 1, type := 0, pos := "laws.go:1697", after := #[{ on := 1, ground := Ground.guard }], guard := some (1, true) }) (v := .pointer (some ⟨wl.heap.size, 1, none⟩)) rfl (by kernel_rfl) (by kernel_rfl) (by kernel_rfl) (fun _ _ _ h => h) (Or.inl ⟨by rfl, ?_⟩) (by assumption) ?_
                · intro wS hSw
                  try dsimp only at hSw
                  go_simp
                try simp only [Act.put, List.setIfInBounds_toArray, List.set_cons_zero, List.set_cons_succ]
                refine wpAnyH_take (i := 3) (oi := { dst := some 124, op := Op.load 4 (Operand.tmp 123), type := 4, pos := "laws.go:1697", after := #[{ on := 2, ground := Ground.data }, { on := 1, ground := Ground.guard }], guard := some (1, true) }) (v := .bool false) rfl (by kernel_rfl) (by kernel_rfl) (by kernel_rfl) (fun _ _ _ h => h) (Or.inl ⟨by rfl, ?_⟩) (by assumption) ?_
                · intro wS hSw
                  try dsimp only at hSw
                  go_simp
                try simp only [Act.put, List.setIfInBounds_toArray, List.set_cons_zero, List.set_cons_succ]
                refine wpAnyH_take (i := 4) (oi := { dst := some 125, op := Op.pick (Operand.tmp 122) (Operand.tmp 124) (Operand.const (Value.bool false)), type := 4, pos := "laws.go:1697", after := #[{ on := 1, ground := Ground.data }, { on := 3, ground := Ground.data }], guard := none }) (v := .bool false) rfl (by kernel_rfl) (by kernel_rfl) (by kernel_rfl) (fun _ _ _ h => h) (Or.inl ⟨by rfl, ?_⟩) (by assumption) ?_
                · intro wS hSw
                  try dsimp only at hSw
                  go_simp
                try simp only [Act.put, List.setIfInBounds_toArray, List.set_cons_zero, List.set_cons_succ]
                refine wpAnyH_take (i := 5) (oi := { dst := some 126, op := Op.move (Operand.tmp 125), type := 4, pos := "laws.go:1697", after := #[{ on := 4, ground := Ground.data }, { on := 1, ground := Ground.chain }], guard := none }) (v := .bool false) rfl (by kernel_rfl) (by kernel_rfl) (by kernel_rfl) (fun _ _ _ h => h) (Or.inl ⟨by rfl, ?_⟩) (by assumption) ?_
                · intro wS hSw
                  try dsimp only at hSw
                  go_simp
                try simp only [Act.put, List.setIfInBounds_toArray, List.set_cons_zero, List.set_cons_succ]
                refine wpAnyH_take (i := 6) (oi := { dst := some 127, op := Op.move (Operand.tmp 17), type := 3, pos := "laws.go:1697", after := #[{ on := 5, ground := Ground.guard }], guard := some (5, true) }) (v := undef) rfl (by kernel_rfl) (by kernel_rfl) (by kernel_rfl) (fun _ _ _ h => h) (Or.inr ⟨by rfl, rfl⟩) (by assumption) ?_
                try simp only [Act.put, List.setIfInBounds_toArray, List.set_cons_zero, List.set_cons_succ]
                refine wpAnyH_take (i := 7) (oi := { dst := some 128, op := Op.move (Operand.tmp 7), type := 37, pos := "laws.go:1697", after := #[{ on := 5, ground := Ground.guard }], guard := some (5, true) }) (v := undef) rfl (by kernel_rfl) (by kernel_rfl) (by kernel_rfl) (fun _ _ _ h => h) (Or.inr ⟨by rfl, rfl⟩) (by assumption) ?_
                try simp only [Act.put, List.setIfInBounds_toArray, List.set_cons_zero, List.set_cons_succ]
                refine wpAnyH_take (i := 8) (oi := { dst := some 129, op := Op.call { callee := Callee.builtin Builtin.len, args := #[Operand.tmp 128], argTypes := #[37] }, type := 3, pos := "laws.go:1697", after := #[{ on := 7, ground := Ground.data }, { on := 5, ground := Ground.guard }], guard := some (5, true) }) (v := undef) rfl (by kernel_rfl) (by kernel_rfl) (by kernel_rfl) (fun _ _ _ h => h) (Or.inr ⟨by rfl, rfl⟩) (by assumption) ?_
                try simp only [Act.put, List.setIfInBounds_toArray, List.set_cons_zero, List.set_cons_succ]
                refine wpAnyH_take (i := 9) (oi := { dst := some 130, op := Op.binOp BinOp.lss 3 (Operand.tmp 127) (Operand.tmp 129) 3, type := 4, pos := "laws.go:1697", after := #[{ on := 6, ground := Ground.data }, { on := 8, ground := Ground.data }, { on := 5, ground := Ground.guard }], guard := some (5, true) }) (v := undef) rfl (by kernel_rfl) (by kernel_rfl) (by kernel_rfl) (fun _ _ _ h => h) (Or.inr ⟨by rfl, rfl⟩) (by assumption) ?_
                try simp only [Act.put, List.setIfInBounds_toArray, List.set_cons_zero, List.set_cons_succ]
                refine wpAnyH_take (i := 10) (oi := { dst := some 131, op := Op.pick (Operand.tmp 126) (Operand.tmp 130) (Operand.const (Value.bool false)), type := 4, pos := "laws.go:1697", after := #[{ on := 5, ground := Ground.data }, { on := 9, ground := Ground.data }], guard := none }) (v := .bool false) rfl (by kernel_rfl) (by kernel_rfl) (by kernel_rfl) (fun _ _ _ h => h) (Or.inl ⟨by rfl, ?_⟩) (by assumption) ?_
                · intro wS hSw
                  try dsimp only at hSw
                  go_simp
                try simp only [Act.put, List.setIfInBounds_toArray, List.set_cons_zero, List.set_cons_succ]
                refine wpAnyH_take (i := 11) (oi := { dst := some 132, op := Op.move (Operand.tmp 131), type := 4, pos := "laws.go:1697", after := #[{ on := 10, ground := Ground.data }, { on := 5, ground := Ground.chain }], guard := none }) (v := .bool false) rfl (by kernel_rfl) (by kernel_rfl) (by kernel_rfl) (fun _ _ _ h => h) (Or.inl ⟨by rfl, ?_⟩) (by assumption) ?_
                · intro wS hSw
                  try dsimp only at hSw
                  go_simp
                try simp only [Act.put, List.setIfInBounds_toArray, List.set_cons_zero, List.set_cons_succ]
                refine wpAnyH_take (i := 12) (oi := { dst := some 133, op := Op.move (Operand.tmp 7), type := 37, pos := "laws.go:1697", after := #[{ on := 11, ground := Ground.guard }], guard := some (11, true) }) (v := undef) rfl (by kernel_rfl) (by kernel_rfl) (by kernel_rfl) (fun _ _ _ h => h) (Or.inr ⟨by rfl, rfl⟩) (by assumption) ?_
                try simp only [Act.put, List.setIfInBounds_toArray, List.set_cons_zero, List.set_cons_succ]
                refine wpAnyH_take (i := 13) (oi := { dst := some 134, op := Op.move (Operand.tmp 17), type := 3, pos := "laws.go:1697", after := #[{ on := 11, ground := Ground.guard }], guard := some (11, true) }) (v := undef) rfl (by kernel_rfl) (by kernel_rfl) (by kernel_rfl) (fun _ _ _ h => h) (Or.inr ⟨by rfl, rfl⟩) (by assumption) ?_
                try simp only [Act.put, List.setIfInBounds_toArray, List.set_cons_zero, List.set_cons_succ]
                refine wpAnyH_take (i := 14) (oi := { dst := some 135, op := Op.indexAddr 37 (Operand.tmp 133) (Operand.tmp 134), type := 0, pos := "laws.go:1697", after := #[{ on := 12, ground := Ground.data }, { on := 13, ground := Ground.data }, { on := 11, ground := Ground.guard }], guard := some (11, true) }) (v := undef) rfl (by kernel_rfl) (by kernel_rfl) (by kernel_rfl) (fun _ _ _ h => h) (Or.inr ⟨by rfl, rfl⟩) (by assumption) ?_
                try simp only [Act.put, List.setIfInBounds_toArray, List.set_cons_zero, List.set_cons_succ]
                refine wpAnyH_take (i := 15) (oi := { dst := some 136, op := Op.load 3 (Operand.tmp 135), type := 3, pos := "laws.go:1697", after := #[{ on := 14, ground := Ground.data }, { on := 11, ground := Ground.guard }], guard := some (11, true) }) (v := undef) rfl (by kernel_rfl) (by kernel_rfl) (by kernel_rfl) (fun _ _ _ h => h) (Or.inr ⟨by rfl, rfl⟩) (by assumption) ?_
                try simp only [Act.put, List.setIfInBounds_toArray, List.set_cons_zero, List.set_cons_succ]
                refine wpAnyH_take (i := 16) (oi := { dst := some 137, op := Op.fieldAddr 45 (Operand.tmp 18) 2, type := 0, pos := "laws.go:1697", after := #[{ on := 11, ground := Ground.guard }], guard := some (11, true) }) (v := undef) rfl (by kernel_rfl) (by kernel_rfl) (by kernel_rfl) (fun _ _ _ h => h) (Or.inr ⟨by rfl, rfl⟩) (by assumption) ?_
                try simp only [Act.put, List.setIfInBounds_toArray, List.set_cons_zero, List.set_cons_succ]
                refine wpAnyH_take (i := 17) (oi := { dst := some 138, op := Op.load 3 (Operand.tmp 137), type := 3, pos := "laws.go:1697", after := #[{ on := 16, ground := Ground.data }, { on := 11, ground := Ground.guard }], guard := some (11, true) }) (v := undef) rfl (by kernel_rfl) (by kernel_rfl) (by kernel_rfl) (fun _ _ _ h => h) (Or.inr ⟨by rfl, rfl⟩) (by assumption) ?_
                try simp only [Act.put, List.setIfInBounds_toArray, List.set_cons_zero, List.set_cons_succ]
                refine wpAnyH_take (i := 18) (oi := { dst := some 139, op := Op.binOp BinOp.neq 3 (Operand.tmp 136) (Operand.tmp 138) 3, type := 4, pos := "laws.go:1697", after := #[{ on := 15, ground := Ground.data }, { on := 17, ground := Ground.data }, { on := 11, ground := Ground.guard }], guard := some (11, true) }) (v := undef) rfl (by kernel_rfl) (by kernel_rfl) (by kernel_rfl) (fun _ _ _ h => h) (Or.inr ⟨by rfl, rfl⟩) (by assumption) ?_
                try simp only [Act.put, List.setIfInBounds_toArray, List.set_cons_zero, List.set_cons_succ]
                refine wpAnyH_take (i := 19) (oi := { dst := some 140, op := Op.pick (Operand.tmp 132) (Operand.tmp 139) (Operand.const (Value.bool false)), type := 4, pos := "laws.go:1697", after := #[{ on := 11, ground := Ground.data }, { on := 18, ground := Ground.data }], guard := none }) (v := .bool false) rfl (by kernel_rfl) (by kernel_rfl) (by kernel_rfl) (fun _ _ _ h => h) (Or.inl ⟨by rfl, ?_⟩) (by assumption) ?_
                · intro wS hSw
                  try dsimp only at hSw
                  go_simp
                try simp only [Act.put, List.setIfInBounds_toArray, List.set_cons_zero, List.set_cons_succ]
                refine wpAnyH_done (by kernel_rfl) ?_ _
                go_wp2_with fail
                exact ⟨⟨q + 1, by congr 1, by omega, BN.out⟩, by simp [intOf]; omega⟩
              · subst hya
                rw [HQ.out rfl] at hyc
                have i1 : (q : Int) < (ys.length : Int) := by omega
                have i2 : decide ((q : Int) < (ys.length : Int)) = true := decide_eq_true i1
                have i0 : (0 : Int) ≤ (q : Int) := by omega
                have ey : (wl.alloc (.cells #[.string pn, .bool true, .int .i64 ty] 45)).drew.cell? ⟨yb, yo + q, none⟩ = some (.int .i64 ty) := (((Below.refl wl.heap.size wl).alloc (Nat.le_refl _) (.cells #[.string pn, .bool true, .int .i64 ty] 45)).drew.cell (p := ⟨yb, yo + q, none⟩) hyb).trans hyc
                have nn : (ty != ty) = false := bne_self_eq_false' _
                have XP := Lib.hid (Box.new wl 45 #[.string pn, .bool true, .int .i64 ty])
                have y1 : _ = some (Value.bool true) := XP.out.cell 1
                have y2 : _ = some (Value.int .i64 ty) := XP.out.cell 2
                have BN := Lib.hid ((BL.out.alloc BL.out.size (.cells #[.string pn, .bool true, .int .i64 ty] 45)).drew)
                go_wp2_with fail
                refine wp_region_held_drew (S := fun w' => w'.cell? ⟨wl.heap.size, 1, none⟩ = some (.bool true) ∧ w'.cell? ⟨wl.heap.size, 2, none⟩ = some (.int .i64 ty) ∧ w'.cell? ⟨yb, yo + q, none⟩ = some (.int .i64 ty)) (by kernel_rfl) ?_ (fun hHeld => ?_)
                · try dsimp only
                  exact ⟨y1, y2, ey⟩
                refine wpAnyH_take (i := 0) (oi := { dst := some 121, op := Op.move (Operand.tmp 8), type := 4, pos := "laws.go:1697", after := #[], guard := none }) (v := .bool true) rfl (by kernel_rfl) (by kernel_rfl) (by kernel_rfl) (fun _ _ _ h => h) (Or.inl ⟨by rfl, ?_⟩) (by assumption) ?_
                · intro wS hSw
                  try dsimp only at hSw
                  go_simp
                try simp only [Act.put, List.setIfInBounds_toArray, List.set_cons_zero, List.set_cons_succ]
                refine wpAnyH_take (i := 1) (oi := { dst := some 122, op := Op.move (Operand.tmp 121), type := 4, pos := "laws.go:1697", after := #[{ on := 0, ground := Ground.data }], guard := none }) (v := .bool true) rfl (by kernel_rfl) (by kernel_rfl) (by kernel_rfl) (fun _ _ _ h => h) (Or.inl ⟨by rfl, ?_⟩) (by assumption) ?_
                · intro wS hSw
                  try dsimp only at hSw
                  go_simp
                try simp only [Act.put, List.setIfInBounds_toArray, List.set_cons_zero, List.set_cons_succ]
                refine wpAnyH_take (i := 2) (oi := { dst := some 123, op := Op.fieldAddr 45 (Operand.tmp 18) 1, type := 0, pos := "laws.go:1697", after := #[{ on := 1, ground := Ground.guard }], guard := some (1, true) }) (v := .pointer (some ⟨wl.heap.size, 1, none⟩)) rfl (by kernel_rfl) (by kernel_rfl) (by kernel_rfl) (fun _ _ _ h => h) (Or.inl ⟨by rfl, ?_⟩) (by assumption) ?_
                · intro wS hSw
                  try dsimp only at hSw
                  go_simp
                try simp only [Act.put, List.setIfInBounds_toArray, List.set_cons_zero, List.set_cons_succ]
                refine wpAnyH_take (i := 3) (oi := { dst := some 124, op := Op.load 4 (Operand.tmp 123), type := 4, pos := "laws.go:1697", after := #[{ on := 2, ground := Ground.data }, { on := 1, ground := Ground.guard }], guard := some (1, true) }) (v := .bool true) rfl (by kernel_rfl) (by kernel_rfl) (by kernel_rfl) (fun _ _ _ h => h) (Or.inl ⟨by rfl, ?_⟩) (by assumption) ?_
                · intro wS hSw
                  try dsimp only at hSw
                  go_simp
                try simp only [Act.put, List.setIfInBounds_toArray, List.set_cons_zero, List.set_cons_succ]
                refine wpAnyH_take (i := 4) (oi := { dst := some 125, op := Op.pick (Operand.tmp 122) (Operand.tmp 124) (Operand.const (Value.bool false)), type := 4, pos := "laws.go:1697", after := #[{ on := 1, ground := Ground.data }, { on := 3, ground := Ground.data }], guard := none }) (v := .bool true) rfl (by kernel_rfl) (by kernel_rfl) (by kernel_rfl) (fun _ _ _ h => h) (Or.inl ⟨by rfl, ?_⟩) (by assumption) ?_
                · intro wS hSw
                  try dsimp only at hSw
                  go_simp
                try simp only [Act.put, List.setIfInBounds_toArray, List.set_cons_zero, List.set_cons_succ]
                refine wpAnyH_take (i := 5) (oi := { dst := some 126, op := Op.move (Operand.tmp 125), type := 4, pos := "laws.go:1697", after := #[{ on := 4, ground := Ground.data }, { on := 1, ground := Ground.chain }], guard := none }) (v := .bool true) rfl (by kernel_rfl) (by kernel_rfl) (by kernel_rfl) (fun _ _ _ h => h) (Or.inl ⟨by rfl, ?_⟩) (by assumption) ?_
                · intro wS hSw
                  try dsimp only at hSw
                  go_simp
                try simp only [Act.put, List.setIfInBounds_toArray, List.set_cons_zero, List.set_cons_succ]
                refine wpAnyH_take (i := 6) (oi := { dst := some 127, op := Op.move (Operand.tmp 17), type := 3, pos := "laws.go:1697", after := #[{ on := 5, ground := Ground.guard }], guard := some (5, true) }) (v := .int .i64 (q : Int)) rfl (by kernel_rfl) (by kernel_rfl) (by kernel_rfl) (fun _ _ _ h => h) (Or.inl ⟨by rfl, ?_⟩) (by assumption) ?_
                · intro wS hSw
                  try dsimp only at hSw
                  go_simp
                try simp only [Act.put, List.setIfInBounds_toArray, List.set_cons_zero, List.set_cons_succ]
                refine wpAnyH_take (i := 7) (oi := { dst := some 128, op := Op.move (Operand.tmp 7), type := 37, pos := "laws.go:1697", after := #[{ on := 5, ground := Ground.guard }], guard := some (5, true) }) (v := .slice (some ⟨yb, yo, none⟩) ys.length yc) rfl (by kernel_rfl) (by kernel_rfl) (by kernel_rfl) (fun _ _ _ h => h) (Or.inl ⟨by rfl, ?_⟩) (by assumption) ?_
                · intro wS hSw
                  try dsimp only at hSw
                  go_simp
                try simp only [Act.put, List.setIfInBounds_toArray, List.set_cons_zero, List.set_cons_succ]
                refine wpAnyH_take (i := 8) (oi := { dst := some 129, op := Op.call { callee := Callee.builtin Builtin.len, args := #[Operand.tmp 128], argTypes := #[37] }, type := 3, pos := "laws.go:1697", after := #[{ on := 7, ground := Ground.data }, { on := 5, ground := Ground.guard }], guard := some (5, true) }) (v := .int .i64 (ys.length : Int)) rfl (by kernel_rfl) (by kernel_rfl) (by kernel_rfl) (fun _ _ _ h => h) (Or.inl ⟨by rfl, ?_⟩) (by assumption) ?_
                · intro wS hSw
                  try dsimp only at hSw
                  go_simp
                try simp only [Act.put, List.setIfInBounds_toArray, List.set_cons_zero, List.set_cons_succ]
                refine wpAnyH_take (i := 9) (oi := { dst := some 130, op := Op.binOp BinOp.lss 3 (Operand.tmp 127) (Operand.tmp 129) 3, type := 4, pos := "laws.go:1697", after := #[{ on := 6, ground := Ground.data }, { on := 8, ground := Ground.data }, { on := 5, ground := Ground.guard }], guard := some (5, true) }) (v := .bool true) rfl (by kernel_rfl) (by kernel_rfl) (by kernel_rfl) (fun _ _ _ h => h) (Or.inl ⟨by rfl, ?_⟩) (by assumption) ?_
                · intro wS hSw
                  try dsimp only at hSw
                  go_simp
                try simp only [Act.put, List.setIfInBounds_toArray, List.set_cons_zero, List.set_cons_succ]
                refine wpAnyH_take (i := 10) (oi := { dst := some 131, op := Op.pick (Operand.tmp 126) (Operand.tmp 130) (Operand.const (Value.bool false)), type := 4, pos := "laws.go:1697", after := #[{ on := 5, ground := Ground.data }, { on := 9, ground := Ground.data }], guard := none }) (v := .bool true) rfl (by kernel_rfl) (by kernel_rfl) (by kernel_rfl) (fun _ _ _ h => h) (Or.inl ⟨by rfl, ?_⟩) (by assumption) ?_
                · intro wS hSw
                  try dsimp only at hSw
                  go_simp
                try simp only [Act.put, List.setIfInBounds_toArray, List.set_cons_zero, List.set_cons_succ]
                refine wpAnyH_take (i := 11) (oi := { dst := some 132, op := Op.move (Operand.tmp 131), type := 4, pos := "laws.go:1697", after := #[{ on := 10, ground := Ground.data }, { on := 5, ground := Ground.chain }], guard := none }) (v := .bool true) rfl (by kernel_rfl) (by kernel_rfl) (by kernel_rfl) (fun _ _ _ h => h) (Or.inl ⟨by rfl, ?_⟩) (by assumption) ?_
                · intro wS hSw
                  try dsimp only at hSw
                  go_simp
                try simp only [Act.put, List.setIfInBounds_toArray, List.set_cons_zero, List.set_cons_succ]
                refine wpAnyH_take (i := 12) (oi := { dst := some 133, op := Op.move (Operand.tmp 7), type := 37, pos := "laws.go:1697", after := #[{ on := 11, ground := Ground.guard }], guard := some (11, true) }) (v := .slice (some ⟨yb, yo, none⟩) ys.length yc) rfl (by kernel_rfl) (by kernel_rfl) (by kernel_rfl) (fun _ _ _ h => h) (Or.inl ⟨by rfl, ?_⟩) (by assumption) ?_
                · intro wS hSw
                  try dsimp only at hSw
                  go_simp
                try simp only [Act.put, List.setIfInBounds_toArray, List.set_cons_zero, List.set_cons_succ]
                refine wpAnyH_take (i := 13) (oi := { dst := some 134, op := Op.move (Operand.tmp 17), type := 3, pos := "laws.go:1697", after := #[{ on := 11, ground := Ground.guard }], guard := some (11, true) }) (v := .int .i64 (q : Int)) rfl (by kernel_rfl) (by kernel_rfl) (by kernel_rfl) (fun _ _ _ h => h) (Or.inl ⟨by rfl, ?_⟩) (by assumption) ?_
                · intro wS hSw
                  try dsimp only at hSw
                  go_simp
                try simp only [Act.put, List.setIfInBounds_toArray, List.set_cons_zero, List.set_cons_succ]
                refine wpAnyH_take (i := 14) (oi := { dst := some 135, op := Op.indexAddr 37 (Operand.tmp 133) (Operand.tmp 134), type := 0, pos := "laws.go:1697", after := #[{ on := 12, ground := Ground.data }, { on := 13, ground := Ground.data }, { on := 11, ground := Ground.guard }], guard := some (11, true) }) (v := .pointer (some ⟨yb, yo + q, none⟩)) rfl (by kernel_rfl) (by kernel_rfl) (by kernel_rfl) (fun _ _ _ h => h) (Or.inl ⟨by rfl, ?_⟩) (by assumption) ?_
                · intro wS hSw
                  try dsimp only at hSw
                  go_simp
                try simp only [Act.put, List.setIfInBounds_toArray, List.set_cons_zero, List.set_cons_succ]
                refine wpAnyH_take (i := 15) (oi := { dst := some 136, op := Op.load 3 (Operand.tmp 135), type := 3, pos := "laws.go:1697", after := #[{ on := 14, ground := Ground.data }, { on := 11, ground := Ground.guard }], guard := some (11, true) }) (v := .int .i64 ty) rfl (by kernel_rfl) (by kernel_rfl) (by kernel_rfl) (fun _ _ _ h => h) (Or.inl ⟨by rfl, ?_⟩) (by assumption) ?_
                · intro wS hSw
                  try dsimp only at hSw
                  go_simp
                try simp only [Act.put, List.setIfInBounds_toArray, List.set_cons_zero, List.set_cons_succ]
                refine wpAnyH_take (i := 16) (oi := { dst := some 137, op := Op.fieldAddr 45 (Operand.tmp 18) 2, type := 0, pos := "laws.go:1697", after := #[{ on := 11, ground := Ground.guard }], guard := some (11, true) }) (v := .pointer (some ⟨wl.heap.size, 2, none⟩)) rfl (by kernel_rfl) (by kernel_rfl) (by kernel_rfl) (fun _ _ _ h => h) (Or.inl ⟨by rfl, ?_⟩) (by assumption) ?_
                · intro wS hSw
                  try dsimp only at hSw
                  go_simp
                try simp only [Act.put, List.setIfInBounds_toArray, List.set_cons_zero, List.set_cons_succ]
                refine wpAnyH_take (i := 17) (oi := { dst := some 138, op := Op.load 3 (Operand.tmp 137), type := 3, pos := "laws.go:1697", after := #[{ on := 16, ground := Ground.data }, { on := 11, ground := Ground.guard }], guard := some (11, true) }) (v := .int .i64 ty) rfl (by kernel_rfl) (by kernel_rfl) (by kernel_rfl) (fun _ _ _ h => h) (Or.inl ⟨by rfl, ?_⟩) (by assumption) ?_
                · intro wS hSw
                  try dsimp only at hSw
                  go_simp
                try simp only [Act.put, List.setIfInBounds_toArray, List.set_cons_zero, List.set_cons_succ]
                refine wpAnyH_take (i := 18) (oi := { dst := some 139, op := Op.binOp BinOp.neq 3 (Operand.tmp 136) (Operand.tmp 138) 3, type := 4, pos := "laws.go:1697", after := #[{ on := 15, ground := Ground.data }, { on := 17, ground := Ground.data }, { on := 11, ground := Ground.guard }], guard := some (11, true) }) (v := .bool false) rfl (by kernel_rfl) (by kernel_rfl) (by kernel_rfl) (fun _ _ _ h => h) (Or.inl ⟨by rfl, ?_⟩) (by assumption) ?_
                · intro wS hSw
                  try dsimp only at hSw
                  go_simp
                try simp only [Act.put, List.setIfInBounds_toArray, List.set_cons_zero, List.set_cons_succ]
                refine wpAnyH_take (i := 19) (oi := { dst := some 140, op := Op.pick (Operand.tmp 132) (Operand.tmp 139) (Operand.const (Value.bool false)), type := 4, pos := "laws.go:1697", after := #[{ on := 11, ground := Ground.data }, { on := 18, ground := Ground.data }], guard := none }) (v := .bool false) rfl (by kernel_rfl) (by kernel_rfl) (by kernel_rfl) (fun _ _ _ h => h) (Or.inl ⟨by rfl, ?_⟩) (by assumption) ?_
                · intro wS hSw
                  try dsimp only at hSw
                  go_simp
                try simp only [Act.put, List.setIfInBounds_toArray, List.set_cons_zero, List.set_cons_succ]
                refine wpAnyH_done (by kernel_rfl) ?_ _
                go_wp2_with fail
                exact ⟨⟨q + 1, by congr 1, by omega, BN.out⟩, by simp [intOf]; omega⟩
            · have BC3 := Lib.hid (BC5.out.trans (BL.out.mono BC5.out.size))
              clear BC5 BL HT HS X5 M5 N5 P6 HSM
              go_wp2_with fail
              refine (dMayPut a' len' cap' _ (Hcode0.out.below BC3.out)).mono ?_
              rintro e w1 ⟨a1, n1, c1, x, y, rfl, x0, x9, y0, y9, ⟨l, hA, hcA, hcmA, hA9, hrA, hsA, hbw⟩⟩
              subst hA
              have Hm := Lib.hid (show ∀ t ∈ l, t.mod from fun t ht => (hsA t ht).md)
              have R1 := Lib.hid hrA.any
              have B1 := Lib.hid (BC3.out.trans (hbw.mono BC3.out.size))
              clear hrA hsA hbw BC3 Hcode0
              have AI := Lib.hid (fun W hW => iMayPut a1 c1 l x y W (by omega) hcA hcmA Hm.out hW)
              have AS := Lib.hid (fun W hW => sMayPut a1 c1 l x y W (by omega) hcA hcmA Hm.out hW)
              generalize mayA l x y = ra at *
              generalize mayOk l x y = ro at *
              go_wp2_with fail
              refine (AI.out _ R1.out).mono ?_
              rintro e w2 ⟨rfl, hb⟩
              have R2 := Lib.hid (R1.out.below hb)
              have B2 := Lib.hid (B1.out.trans (hb.mono B1.out.size))
              clear hb
              go_wp2_with fail
              refine (AS.out _ R2.out).mono ?_
              rintro e w3 ⟨rfl, hb⟩
              have B3 := Lib.hid (B2.out.trans (hb.mono B2.out.size))
              clear hb AI AS R1 R2 B1 B2
              have e1 : (ra == ra) = true := beq_self_eq_true _
              have e2 : (ro == ro) = true := beq_self_eq_true _
              go_wp2_with fail
              go_ret
              exact ⟨rfl, B3.out⟩
  · rw [(call_out hp).1, (call_out hp).2] at CI CS
    have hok : True := trivial
    obtain ⟨x0, x1, x2, x3, x4⟩ := box5 XV.out
    go_wp2_with fail
    clear x0 x1 x2 x3 x4
    refine (CI.out _ MV.out NV.out).mono ?_
    rintro e u2 ⟨rfl, hb⟩
    have X2 := Lib.hid (XV.out.below hb XV.out.lt)
    have M2 := Lib.hid (MV.out.below hb)
    have N2 := Lib.hid (NV.out.below hb)
    have BU2 := Lib.hid (BV.out.trans (hb.mono BV.out.size))
    clear hb XV MV NV BV CI
    obtain ⟨x0, x1, x2, x3, x4⟩ := box5 X2.out
    go_wp2_with fail
    clear x0 x1 x2 x3 x4
    refine (CS.out _ M2.out N2.out).mono ?_
    rintro e u3 ⟨rfl, hb⟩
    have XC3 := Lib.hid (X2.out.below hb X2.out.lt)
    have MC3 := Lib.hid (M2.out.below hb)
    have NC3 := Lib.hid (N2.out.below hb)
    have BC3 := Lib.hid (BU2.out.trans (hb.mono BU2.out.size))
    clear hb X2 M2 N2 BU2 CS
    have hdd : ∀ b : Bool, (true && b) = b := fun b => Bool.true_and b
    clear hdd hok MC3 NC3 XC3 hp HSM
    go_wp2_with fail
    refine (dMayPut a' len' cap' _ (Hcode0.out.below BC3.out)).mono ?_
    rintro e w1 ⟨a1, n1, c1, x, y, rfl, x0, x9, y0, y9, ⟨l, hA, hcA, hcmA, hA9, hrA, hsA, hbw⟩⟩
    subst hA
    have Hm := Lib.hid (show ∀ t ∈ l, t.mod from fun t ht => (hsA t ht).md)
    have R1 := Lib.hid hrA.any
    have B1 := Lib.hid (BC3.out.trans (hbw.mono BC3.out.size))
    clear hrA hsA hbw BC3 Hcode0
    have AI := Lib.hid (fun W hW => iMayPut a1 c1 l x y W (by omega) hcA hcmA Hm.out hW)
    have AS := Lib.hid (fun W hW => sMayPut a1 c1 l x y W (by omega) hcA hcmA Hm.out hW)
    generalize mayA l x y = ra at *
    generalize mayOk l x y = ro at *
    go_wp2_with fail
    refine (AI.out _ R1.out).mono ?_
    rintro e w2 ⟨rfl, hb⟩
    have R2 := Lib.hid (R1.out.below hb)
    have B2 := Lib.hid (B1.out.trans (hb.mono B1.out.size))
    clear hb
    go_wp2_with fail
    refine (AS.out _ R2.out).mono ?_
    rintro e w3 ⟨rfl, hb⟩
    have B3 := Lib.hid (B2.out.trans (hb.mono B2.out.size))
    clear hb AI AS R1 R2 B1 B2
    have e1 : (ra == ra) = true := beq_self_eq_true _
    have e2 : (ro == ro) = true := beq_self_eq_true _
    go_wp2_with fail
    go_ret
    exact ⟨rfl, B3.out⟩
end Go.Proofs.Ytnhdijkaakjdgaa
