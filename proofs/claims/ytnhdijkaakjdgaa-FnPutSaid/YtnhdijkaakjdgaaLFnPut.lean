
/-
  What is proved: the walk of the law FnPut. No condition beside what each theorem states.
-/
import Derived.Test.YtnhdijkaakjdgaaDrawA
import Derived.Test.YtnhdijkaakjdgaaPutB
import Derived.Test.YtnhdijkaakjdgaaCallS
namespace Go.Proofs.Ytnhdijkaakjdgaa
open Go.ChangeShapes Go.WideShapes Go.ChangeAt Go.RowKit
set_option maxRecDepth 100000

theorem chain_on {l : List TypeD} (hg : good l) {b : Int} : ∀ (n : Nat) (a : Int), (chain l a).length ≤ n → b ∈ chain l a → ∃ pre, chain l a = pre ++ chain l b := by
  intro n
  induction n with
  | zero =>
    intro a hn hb
    rw [List.eq_nil_of_length_eq_zero (by omega : (chain l a).length = 0)] at hb
    cases hb
  | succ n ih =>
    intro a hn hb
    have ha : kindZ l a = 5 := by
      by_cases e : kindZ l a = 5
      · exact e
      · rw [chain_end e] at hb; cases hb
    have hless := chain_less hg ha
    rw [chain_cons hg ha] at hb
    rcases List.mem_cons.1 hb with rfl | hb
    · exact ⟨[], rfl⟩
    · obtain ⟨pre, hp⟩ := ih (baseZ l a) (by omega) hb
      exact ⟨a :: pre, by rw [chain_cons hg ha, hp]; rfl⟩
theorem put_self {l : List TypeD} {i : Nat} (hi : i < l.length) : putB l i i hi hi = true := putB_true (.inl rfl)
theorem put_far {l : List TypeD} (hg : good l) {i j k : Nat} {hi : i < l.length} {hj : j < l.length} {hk : k < l.length} (h1 : putB l i j hi hj = true) (h2 : putB l j k hj hk = true) (h3 : putB l i k hi hk = false) : l[i].fKind ≠ 5 := fun h5 => by
  unfold putB at h1 h2 h3
  simp only [decide_eq_true_eq, decide_eq_false_iff_not] at h1 h2 h3
  have q1 : putQ l i j hi hj := h1
  have q2 : putQ l j k hj hk := h2
  have q3 : ¬ putQ l i k hi hk := h3
  refine q3 ?_
  rcases q1 with rfl | q1 | q1 | q1
  · exact q2
  · have kj : kindZ l (j : Int) = 5 := (chain_mem q1).2
    obtain ⟨j', e, hj', hk'⟩ := kind5 kj
    have e : j = j' := by omega
    subst e
    rcases q2 with rfl | q2 | q2 | q2
    · exact .inr (.inl q1)
    · obtain ⟨pre, hp⟩ := chain_on hg _ (k : Int) (Nat.le_refl _) q2
      exact .inr (.inl (by rw [hp]; exact List.mem_append_right _ q1))
    · exact absurd (hk'.symm.trans q2.1) (by decide)
    · exact absurd (hk'.symm.trans q2.1) (by decide)
  · exact absurd (h5.symm.trans q1.1) (by decide)
  · exact absurd (h5.symm.trans q1.1) (by decide)

-- shell: FnPut
set_option maxHeartbeats 32000000 in
theorem law_FnPut (a : Option Addr) (len cap : Nat) (zs : List Int) (a' : Option Addr) (len' cap' : Nat) (zs' : List Int) (w : World) (h : RowIn .u8 w a len cap zs) (h' : RowIn .u8 w a' len' cap' zs') :
    Calls Try.prog 3 #[.slice a len cap, .slice a' len' cap'] w fun e w' => e = .returned (.bool true) ∧ Below w.heap.size w w' := by
  by_cases hbig : 1048576 < len + len'
  · have l1 := h.len
    clear h h'
    go_enter Try.func3, Try.ntmps3
    go_wp2_with (go_at_call 6; refine (lBig_yes _ _ _ _ _ _ _ hbig l1).mono ?_; rintro e w' ⟨rfl, rfl⟩)
    go_ret
    exact ⟨rfl, Below.refl _ _⟩
  have H := Lib.hid (h.code (by omega))
  have Hcode0 := Lib.hid (h'.code (by omega))
  clear h h'
  go_enter Try.func3, Try.ntmps3
  go_wp2_with (go_at_call 6; refine (lBig_no _ _ _ _ _ _ _ (by omega)).mono ?_; rintro e w' ⟨rfl, rfl⟩)
  refine (dMayPut a len cap _ H.out).mono ?_
  rintro e w1 ⟨a1, n1, c1, x, y, rfl, x0, x9, y0, y9, ⟨l, hA, hcA, hcmA, hA9, hrA, hsA, hbw⟩⟩
  subst hA
  have Hm := Lib.hid (show ∀ t ∈ l, t.mod from fun t ht => (hsA t ht).md)
  have R1 := Lib.hid hrA.any
  have B1 := Lib.hid hbw
  clear hrA hsA hbw H
  have AI := Lib.hid (fun u v W hW => iMayPut a1 c1 l u v W (by omega) hcA hcmA Hm.out hW)
  have AS := Lib.hid (fun W hW => sMayPut a1 c1 l x y W (by omega) hcA hcmA Hm.out hW)
  by_cases hp : mayP l x y
  · obtain ⟨hg, ⟨hx0, hx1⟩, hy0, hy1⟩ := hp
    obtain ⟨i, rfl⟩ := Int.eq_ofNat_of_zero_le hx0
    obtain ⟨j, rfl⟩ := Int.eq_ofNat_of_zero_le hy0
    have hi : i < l.length := by omega
    have hj : j < l.length := by omega
    have AX := Lib.hid (fun W hW => AI.out (i : Int) (j : Int) W hW)
    have AF := Lib.hid (fun W hW => AI.out (i : Int) (i : Int) W hW)
    have AK := Lib.hid (fun (u k : Nat) (hu : u < l.length) (hk : k < l.length) W hW => by
      have h := AI.out (u : Int) (k : Int) W hW
      rw [(may_in hg hu hk).1, (may_in hg hu hk).2] at h
      exact h)
    rw [(may_in hg hi hj).1, (may_in hg hi hj).2] at AX AS
    rw [(may_in hg hi hi).1, (may_in hg hi hi).2, put_self hi] at AF
    have HF := Lib.hid (fun (k : Nat) (hk : k < l.length) => put_far (i := i) (j := j) (k := k) (hi := hi) (hj := hj) (hk := hk) hg)
    clear AI hx0 hx1 hy0 hy1
    generalize putB l i j hi hj = q at *
    go_wp2_with fail
    refine (AX.out _ R1.out).mono ?_
    rintro e w2 ⟨rfl, hb⟩
    have R2 := Lib.hid (R1.out.below hb)
    have B2 := Lib.hid (B1.out.trans (hb.mono B1.out.size))
    clear hb
    go_wp2_with fail
    refine (AS.out _ R2.out).mono ?_
    rintro e w3 ⟨rfl, hb⟩
    have R3 := Lib.hid (R2.out.below hb)
    have B3 := Lib.hid (B2.out.trans (hb.mono B2.out.size))
    clear hb AX AS R1 R2 B1 B2
    have hqq : (q != q) = false := bne_self_eq_false' _
    go_wp2_with fail
    refine (AF.out _ R3.out).mono ?_
    rintro e w4 ⟨rfl, hb⟩
    have R4 := Lib.hid (R3.out.below hb)
    have B4 := Lib.hid (B3.out.trans (hb.mono B3.out.size))
    clear hb R3 B3 AF
    go_wp2_with fail
    go_loopw [73] (fun z wr => ∃ k : Nat, z = .int .i64 k ∧ k ≤ l.length ∧ Below w4.heap.size w4 wr) (fun z _ => l.length - (intOf z).toNat)
    case atStart => exact ⟨0, rfl, by omega, Below.refl _ _⟩
    case round =>
      obtain ⟨wl, hwl⟩ : ∃ z, z = wr := ⟨_, rfl⟩
      subst hwl
      obtain ⟨k, rfl, hk, hbel⟩ := hrel
      have Hbel := Lib.hid hbel
      clear hbel
      by_cases hlt : k < l.length
      · have HFk := Lib.hid (HF.out k hlt)
        have K1 := Lib.hid (AK.out j k hj hlt)
        have K2 := Lib.hid (AK.out i k hi hlt)
        generalize putB l j k hj hlt = qx at *
        generalize putB l i k hi hlt = qy at *
        go_wp2_with fail
        refine (K1.out _ (R4.out.below Hbel.out)).mono ?_
        rintro e w5 ⟨rfl, hb⟩
        have B5 := Lib.hid (Hbel.out.trans (hb.mono Hbel.out.size))
        clear hb
        go_wp2_with fail
        refine (K2.out _ (R4.out.below B5.out)).mono ?_
        rintro e w6 ⟨rfl, hb⟩
        have B6 := Lib.hid (B5.out.trans (hb.mono B5.out.size))
        clear hb K1 K2 B5 Hbel
        obtain ⟨tb, to, cs, rfl, _, _, hc, a3, c3, rfl, _⟩ := (R4.out.below B6.out) i hi
        have hn6 : typeS.n = 6 := rfl
        rw [hn6] at hc
        have d0 := hc 0 (by decide)
        simp at d0
        clear hc
        have i0 : (0 : Int) ≤ (i : Int) := by omega
        have i1 : decide ((i : Int) < (l.length : Int)) = true := decide_eq_true (by omega)
        cases q <;> cases qx <;> cases qy
        case true.true.false =>
          have h5 := HFk.out rfl rfl rfl
          have h5b : (l[i].fKind == 5) = false := beq_eq_false_iff_ne.2 h5
          go_wp2_with fail
          exact ⟨⟨k + 1, by congr 1, by omega, B6.out⟩, by simp [intOf]; omega⟩
        all_goals
          clear d0 i0 i1
          go_wp2_with fail
          exact ⟨⟨k + 1, by congr 1, by omega, B6.out⟩, by simp [intOf]; omega⟩
      · have BX := Lib.hid (B4.out.trans (Hbel.out.mono B4.out.size))
        clear R4 B4 Hbel AK HF
        go_wp2_with fail
        refine (dMayCall a' len' cap' _ (Hcode0.out.below BX.out)).mono ?_
        rintro e v1 ⟨s, p1, p2, p3, p4, k1, k2, k3, k4, n, ya, yc, ys, rfl, hsh, hyl, hny, hsm, hbv⟩
        have BV1 := Lib.hid (BX.out.trans (hbv.mono BX.out.size))
        have BA := (Below.refl v1.heap.size v1).alloc (Nat.le_refl _) (.cells (scopeC s p1 p2 p3 p4 k1 k2 k3 k4) 36)
        have XV := Lib.hid (Box.new v1 36 (scopeC s p1 p2 p3 p4 k1 k2 k3 k4))
        have MV := Lib.hid (hsm.below BA)
        have NV := Lib.hid (hny.below BA)
        have BV := Lib.hid (BV1.out.trans (BA.mono BV1.out.size))
        clear hsh hny hsm hbv BA BV1
        go_wp2_with fail
        obtain ⟨sb, hsb⟩ : ∃ z, z = v1.heap.size := ⟨_, rfl⟩
        rw [← hsb] at XV
        rw [← hsb]
        clear hsb
        generalize v1.alloc (.cells (scopeC s p1 p2 p3 p4 k1 k2 k3 k4) 36) = u1 at *
        have CI := Lib.hid (fun W (hM : ScopeM W p1 p2 p3 p4 k1 k2 k3 k4 s) (hY : Nums W ya ys) => iMayCall s n p1 p2 p3 p4 k1 k2 k3 k4 ya yc ys W hM (by omega) hY)
        have CS := Lib.hid (fun W (hM : ScopeM W p1 p2 p3 p4 k1 k2 k3 k4 s) (hY : Nums W ya ys) => sMayCall s n p1 p2 p3 p4 k1 k2 k3 k4 ya yc ys W hM (by omega) hY)
        generalize callA s n ys = qa at *
        generalize callOk s n ys = qo at *
        obtain ⟨x0, x1, x2, x3, x4⟩ := box5 XV.out
        go_wp2_with fail
        clear x0 x1 x2 x3 x4
        refine (CI.out _ MV.out NV.out).mono ?_
        rintro e u2 ⟨rfl, hb⟩
        have X2 := Lib.hid (XV.out.below hb XV.out.lt)
        have M2 := Lib.hid (MV.out.below hb)
        have N2 := Lib.hid (NV.out.below hb)
        have BU2 := Lib.hid (BV.out.trans (hb.mono BV.out.size))
        clear hb XV MV NV BV CI
        obtain ⟨x0, x1, x2, x3, x4⟩ := box5 X2.out
        go_wp2_with fail
        clear x0 x1 x2 x3 x4
        refine (CS.out _ M2.out N2.out).mono ?_
        rintro e u3 ⟨rfl, hb⟩
        have BU3 := Lib.hid (BU2.out.trans (hb.mono BU2.out.size))
        clear hb X2 M2 N2 BU2 CS
        have e1 : (qa == qa) = true := beq_self_eq_true _
        have e2 : (qo == qo) = true := beq_self_eq_true _
        go_wp2_with fail
        go_ret
        exact ⟨rfl, BU3.out⟩
  · have AX := Lib.hid (fun W hW => AI.out x y W hW)
    rw [(may_out hp).1, (may_out hp).2] at AX AS
    clear AI
    go_wp2_with fail
    refine (AX.out _ R1.out).mono ?_
    rintro e w2 ⟨rfl, hb⟩
    have R2 := Lib.hid (R1.out.below hb)
    have B2 := Lib.hid (B1.out.trans (hb.mono B1.out.size))
    clear hb
    go_wp2_with fail
    refine (AS.out _ R2.out).mono ?_
    rintro e w3 ⟨rfl, hb⟩
    have BX := Lib.hid (B2.out.trans (hb.mono B2.out.size))
    clear hb AX AS R1 R2 B1 B2
    go_wp2_with fail
    refine (dMayCall a' len' cap' _ (Hcode0.out.below BX.out)).mono ?_
    rintro e v1 ⟨s, p1, p2, p3, p4, k1, k2, k3, k4, n, ya, yc, ys, rfl, hsh, hyl, hny, hsm, hbv⟩
    have BV1 := Lib.hid (BX.out.trans (hbv.mono BX.out.size))
    have BA := (Below.refl v1.heap.size v1).alloc (Nat.le_refl _) (.cells (scopeC s p1 p2 p3 p4 k1 k2 k3 k4) 36)
    have XV := Lib.hid (Box.new v1 36 (scopeC s p1 p2 p3 p4 k1 k2 k3 k4))
    have MV := Lib.hid (hsm.below BA)
    have NV := Lib.hid (hny.below BA)
    have BV := Lib.hid (BV1.out.trans (BA.mono BV1.out.size))
    clear hsh hny hsm hbv BA BV1
    go_wp2_with fail
    obtain ⟨sb, hsb⟩ : ∃ z, z = v1.heap.size := ⟨_, rfl⟩
    rw [← hsb] at XV
    rw [← hsb]
    clear hsb
    generalize v1.alloc (.cells (scopeC s p1 p2 p3 p4 k1 k2 k3 k4) 36) = u1 at *
    have CI := Lib.hid (fun W (hM : ScopeM W p1 p2 p3 p4 k1 k2 k3 k4 s) (hY : Nums W ya ys) => iMayCall s n p1 p2 p3 p4 k1 k2 k3 k4 ya yc ys W hM (by omega) hY)
    have CS := Lib.hid (fun W (hM : ScopeM W p1 p2 p3 p4 k1 k2 k3 k4 s) (hY : Nums W ya ys) => sMayCall s n p1 p2 p3 p4 k1 k2 k3 k4 ya yc ys W hM (by omega) hY)
    generalize callA s n ys = qa at *
    generalize callOk s n ys = qo at *
    obtain ⟨x0, x1, x2, x3, x4⟩ := box5 XV.out
    go_wp2_with fail
    clear x0 x1 x2 x3 x4
    refine (CI.out _ MV.out NV.out).mono ?_
    rintro e u2 ⟨rfl, hb⟩
    have X2 := Lib.hid (XV.out.below hb XV.out.lt)
    have M2 := Lib.hid (MV.out.below hb)
    have N2 := Lib.hid (NV.out.below hb)
    have BU2 := Lib.hid (BV.out.trans (hb.mono BV.out.size))
    clear hb XV MV NV BV CI
    obtain ⟨x0, x1, x2, x3, x4⟩ := box5 X2.out
    go_wp2_with fail
    clear x0 x1 x2 x3 x4
    refine (CS.out _ M2.out N2.out).mono ?_
    rintro e u3 ⟨rfl, hb⟩
    have BU3 := Lib.hid (BU2.out.trans (hb.mono BU2.out.size))
    clear hb X2 M2 N2 BU2 CS
    have e1 : (qa == qa) = true := beq_self_eq_true _
    have e2 : (qo == qo) = true := beq_self_eq_true _
    go_wp2_with fail
    go_ret
    exact ⟨rfl, BU3.out⟩
end Go.Proofs.Ytnhdijkaakjdgaa
