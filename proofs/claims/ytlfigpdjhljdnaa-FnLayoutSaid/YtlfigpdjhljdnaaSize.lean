
/-
  What is proved: What is said: how great types are, cut where it is too much; that good types have ranks; a map of numbers to sizes that a call makes itself; a contract of the program's sizeWithin. No condition beside what each theorem states.
-/
import Derived.Test.YtlfigpdjhljdnaaSim
import Derived.Test.YtlfigpdjhljdnaaEqHeads
import Derived.Test.YtlfigpdjhljdnaaIParts
namespace Go.Proofs.Ytlfigpdjhljdnaa
open Go.ChangeShapes Go.WideShapes Go.ChangeAt Go.RowKit

def sumZ (S : Int → Int) (ps : List Int) : Int := (ps.map S).foldl (· + ·) 0
def oneS (S : Int → Int) (t : TypeD) : Int :=
  if t.fKind = 1 then 4 else if t.fKind = 2 ∨ t.fKind = 3 then 1 else if t.fKind = 6 then 8 else min 1000000001 (sumZ S (insideD t) * (if t.fKind = 4 then t.fLong else 1))
def sizeF (l : List TypeD) : Nat → Int → Int
  | 0, _ => 0
  | f + 1, x => if h : 0 ≤ x ∧ x.toNat < l.length then oneS (sizeF l f) l[x.toNat] else 0
/-- All ways inside from a type are shorter. -/
def Rk (l : List TypeD) : Nat → Nat → Prop
  | 0, _ => False
  | f + 1, n => ∃ h : n < l.length, ∀ x ∈ insideD l[n], ∃ m : Nat, x = (m : Int) ∧ Rk l f m
theorem Rk.lt {l : List TypeD} {f n : Nat} (h : Rk l f n) : n < l.length := by
  cases f with
  | zero => cases h
  | succ f => exact h.1

theorem rk_met {l : List TypeD} (hg : good l) : ∀ (k : Nat) (V : List Int) (n : Nat), V.Nodup → (∀ v ∈ V, ∃ i : Nat, v = (i : Int) ∧ ∃ hi : i < l.length, Reach l insideD (insideD l[i]) n) → V.length + k = l.length → n < l.length → Rk l k n := by
  intro k
  induction k with
  | zero =>
    intro V n hV hr hlen hn
    have hnV : (n : Int) ∉ V := fun h => by
      obtain ⟨i, e, hi, hri⟩ := hr _ h
      have : n = i := by omega
      subst this
      exact hg.2 n hn ⟨hi, hri⟩
    have := nodup_most l.length ((n : Int) :: V) (List.nodup_cons.2 ⟨hnV, hV⟩) (fun x hx => by
      rcases List.mem_cons.1 hx with rfl | hx
      · omega
      · obtain ⟨i, rfl, hi, _⟩ := hr x hx; omega)
    simp at this
    omega
  | succ k ih =>
    intro V n hV hr hlen hn
    have hnV : (n : Int) ∉ V := fun h => by
      obtain ⟨i, e, hi, hri⟩ := hr _ h
      have : n = i := by omega
      subst this
      exact hg.2 n hn ⟨hi, hri⟩
    refine ⟨hn, fun x hx => ?_⟩
    obtain ⟨h0, h1⟩ := hg.1.inside n hn x hx
    obtain ⟨m, rfl⟩ := Int.eq_ofNat_of_zero_le h0
    refine ⟨m, rfl, ih ((n : Int) :: V) m (List.nodup_cons.2 ⟨hnV, hV⟩) (fun v hv => ?_) (by simp; omega) (by omega)⟩
    rcases List.mem_cons.1 hv with rfl | hv
    · exact ⟨n, rfl, hn, .start hx⟩
    · obtain ⟨i, e, hi, hri⟩ := hr v hv
      exact ⟨i, e, hi, .step hn hri hx⟩
theorem rk_all {l : List TypeD} (hg : good l) {n : Nat} (hn : n < l.length) : Rk l l.length n := rk_met hg l.length [] n List.nodup_nil (fun _ h => by cases h) (by simp) hn

theorem sumZ_congr {S S' : Int → Int} {ps : List Int} (h : ∀ x ∈ ps, S x = S' x) : sumZ S ps = sumZ S' ps := by unfold sumZ; rw [List.map_congr_left h]
theorem oneS_congr {S S' : Int → Int} {t : TypeD} (h : ∀ x ∈ insideD t, S x = S' x) : oneS S t = oneS S' t := by unfold oneS; rw [sumZ_congr h]
theorem sizeF_in {l : List TypeD} (f : Nat) {n : Nat} (hn : n < l.length) : sizeF l (f + 1) (n : Int) = oneS (sizeF l f) l[n] := by
  unfold sizeF
  rw [dif_pos ⟨by omega, by omega⟩]
  simp
theorem sizeF_more {l : List TypeD} : ∀ (f n : Nat), Rk l f n → ∀ g, f ≤ g → sizeF l g (n : Int) = sizeF l f (n : Int) := by
  intro f
  induction f with
  | zero => intro n h; cases h
  | succ f ih =>
    intro n h g hg
    obtain ⟨hn, hp⟩ := h
    obtain ⟨g', rfl⟩ : ∃ g', g = g' + 1 := ⟨g - 1, by omega⟩
    rw [sizeF_in g' hn, sizeF_in f hn]
    exact oneS_congr (fun x hx => by
      obtain ⟨m, rfl, hm⟩ := hp x hx
      exact ih m hm g' (by omega))
/-- The size of a type. -/
def sizeS (l : List TypeD) (x : Int) : Int := sizeF l 24 x
theorem sizeS_eq {l : List TypeD} (hg : good l) {n : Nat} (hn : n < l.length) : sizeS l (n : Int) = oneS (sizeS l) l[n] := by
  have h := rk_all hg hn
  have h24 := hg.1.most
  unfold sizeS
  rw [sizeF_more _ n h 24 h24, ← sizeF_more _ n h 25 (by omega), sizeF_in 24 hn]
theorem sumZ_append (S : Int → Int) (ps : List Int) (x : Int) : sumZ S (ps ++ [x]) = sumZ S ps + S x := by simp [sumZ]
theorem fold_bounds {S : Int → Int} {b : Int} (hS : ∀ x, 0 ≤ S x ∧ S x ≤ b) : ∀ (ps : List Int) (a : Int), a ≤ (ps.map S).foldl (· + ·) a ∧ (ps.map S).foldl (· + ·) a ≤ a + ps.length * b
  | [], a => by simp
  | x :: ps, a => by
    have h := fold_bounds hS ps (a + S x)
    have := hS x
    simp only [List.map_cons, List.foldl_cons, List.length_cons]
    push_cast
    rw [Int.add_mul]
    omega
theorem sumZ_bounds {S : Int → Int} {b : Int} (hS : ∀ x, 0 ≤ S x ∧ S x ≤ b) (ps : List Int) : 0 ≤ sumZ S ps ∧ sumZ S ps ≤ ps.length * b := by
  have := fold_bounds hS ps 0
  unfold sumZ
  omega
theorem sizeF_bounds {l : List TypeD} (hne : near l) : ∀ (f : Nat) (x : Int), 0 ≤ sizeF l f x ∧ sizeF l f x ≤ 1000000001 := by
  intro f
  induction f with
  | zero => intro x; exact ⟨Int.le_refl _, by show (0 : Int) ≤ _; decide⟩
  | succ f ih =>
    intro x
    unfold sizeF
    split
    · rename_i h
      unfold oneS
      have hs := (sumZ_bounds ih (insideD l[x.toNat])).1
      split
      · decide
      split
      · decide
      split
      · decide
      split
      · rename_i h4
        have hlong : 0 ≤ l[x.toNat].fLong := by
          rcases hne.ok x.toNat h.2 with ⟨h3, hb⟩ | ⟨_, ho⟩
          · have := hb.2.1; omega
          · rcases ho.2 with ⟨_, q, _⟩ | ⟨_, q, _⟩ | ⟨_, q, _⟩ <;> omega
        have := Int.mul_nonneg hs hlong
        omega
      · omega
    · decide
theorem sizeS_bounds {l : List TypeD} (hne : near l) (x : Int) : 0 ≤ sizeS l x ∧ sizeS l x ≤ 1000000001 := sizeF_bounds hne 24 x
end Go.Proofs.Ytlfigpdjhljdnaa

namespace Go.Proofs.Ytlfigpdjhljdnaa
open Go.ChangeShapes Go.WideShapes Go.ChangeAt Go.RowKit Go.Maps Go.WideMaps

theorem intKeyed : Keyed Try.prog 3 := int_keyed Try.underlying3
theorem zeroInt (w : World) : (zeroValue 3).run Try.prog w = .ok (.int .i64 0) w := by kernel_rfl
theorem intKey {x : Int} (h : (Lit.int .i64 x).wf = true) : keyOf Try.prog 3 (.int .i64 x) = some (.int .i64 x) := keyOf_int_mk Try.underlying3 h
/-- Block b is a map that tells S of the numbers in K. -/
def KMap (S : Int → Int) (w : World) (b : Nat) (K : List Int) : Prop :=
  ∃ D : DataW Unit, w.ownsMap Try.prog 3 (plainElem Try.prog 3) b K.length D ∧ IsMap D ∧ ∀ x, (Lit.int .i64 x).wf = true → has D (.int .i64 x) = decide (x ∈ K) ∧ (x ∈ K → D.atKey (.int .i64 x) (.lit (.int .i64 0)) = .lit (.int .i64 (S x)))
theorem KMap.lt {S : Int → Int} {w : World} {b : Nat} {K : List Int} (h : KMap S w b K) : b < w.heap.size := by obtain ⟨D, h, _⟩ := h; exact h.lt
theorem KMap.made (S : Int → Int) (w : World) : KMap S (w.alloc (.map #[] 0)) w.heap.size [] := ⟨.map [], World.ownsMap_made w Try.prog _ _, isMap_empty, fun _ _ => ⟨rfl, fun h => by cases h⟩⟩
theorem KMap.block {S : Int → Int} {w w' : World} {b : Nat} {K : List Int} (h : KMap S w b K) (hb : w'.heap[b]? = w.heap[b]?) : KMap S w' b K := by
  obtain ⟨D, ⟨es, clock, h1, h2⟩, h3⟩ := h
  exact ⟨D, ⟨es, clock, hb.trans h1, h2⟩, h3⟩
theorem KMap.below {S : Int → Int} {w w' : World} {b : Nat} {K : List Int} (h : KMap S w b K) (hb : Below w.heap.size w w') : KMap S w' b K := h.block (hb.block b h.lt)
theorem KMap.look {S : Int → Int} {w : World} {b : Nat} {K : List Int} (h : KMap S w b K) {t : TypeId} (ht : Try.prog.underlying t = some (.map 3 3)) {x : Int} (hx : (Lit.int .i64 x).wf = true) :
    ∃ z, (Instr.lookup t (.map (some b)) (.int .i64 x) true).run Try.prog w = .ok (.tuple #[.int .i64 z, .bool (decide (x ∈ K))]) w ∧ (x ∈ K → z = S x) := by
  obtain ⟨D, h1, _, h3⟩ := h
  obtain ⟨v, ps, hrun, hv⟩ := h1.look_ok intKeyed ht (zeroInt w) (plainElem_int Try.underlying3 (by decide)) (intKey hx)
  obtain ⟨c, rfl, hc, _⟩ := plainElem_int_inv Try.underlying3 hv
  obtain ⟨h4, h5⟩ := h3 x hx
  simp only [Prod.mk.injEq] at hc
  refine ⟨c, by rw [hrun, h4], fun hm => ?_⟩
  have := (h5 hm).symm.trans hc.1
  simpa using this.symm
theorem KMap.put {S : Int → Int} {w : World} {b : Nat} {K : List Int} (h : KMap S w b K) {t : TypeId} (ht : Try.prog.underlying t = some (.map 3 3)) (hn : K.length < maxLen) {x : Int} (hx : (Lit.int .i64 x).wf = true) (hs : (Lit.int .i64 (S x)).wf = true) :
    ∃ w', (Instr.mapUpdate t (.map (some b)) (.int .i64 x) (.int .i64 (S x))).run Try.prog w = .ok () w' ∧ KMap S w' b (K ++ [x]) ∧ w.grownBy w' (some b) := by
  obtain ⟨D, h1, h2, h3⟩ := h
  obtain ⟨w', hrun, r1, r2⟩ := h1.update intKeyed ht hn (intKey hx) (plainElem_int Try.underlying3 hs)
  refine ⟨w', hrun, ⟨_, by rw [List.length_append]; exact r1, h2.put _ _, fun y hy => ?_⟩, r2⟩
  by_cases e : y = x
  · subst e
    have hk := intKeyed.key (intKey hx)
    exact ⟨by rw [has_put_same h2 hk]; simp, fun _ => atKey_put_same h2 hk _ _⟩
  · have hne : (Lit.int .i64 y) ≠ Lit.int .i64 x := fun h => e (by injection h)
    obtain ⟨h4, h5⟩ := h3 y hy
    refine ⟨by rw [has_put_other hne, h4]; simp [e], fun hm => ?_⟩
    rw [atKey_put_other hne]
    exact h5 (by simpa [e] using hm)
theorem wfBig {a : Int} (h : 0 ≤ a) (h1 : a ≤ 1000000001) : (Lit.int .i64 a).wf = true := by
  simp [Lit.wf]
  have : IntKind.i64.min = -9223372036854775808 := rfl
  omega

/-- The numbers whose sizes are known. -/
structure Known (l : List TypeD) (K : List Int) : Prop where
  once : K.Nodup
  here : ∀ x ∈ K, 0 ≤ x ∧ x < (l.length : Int)
theorem Known.len {l : List TypeD} {K : List Int} (h : Known l K) (h24 : l.length ≤ 24) : K.length ≤ 24 := by
  have := nodup_most l.length K h.once h.here
  omega
theorem Known.put {l : List TypeD} {K : List Int} (h : Known l K) {x : Int} (hx : 0 ≤ x ∧ x < (l.length : Int)) (hn : x ∉ K) : Known l (K ++ [x]) :=
  ⟨by rw [List.nodup_append]; exact ⟨h.once, by simp, fun a ha b hb e => by rw [List.mem_singleton.1 hb] at e; exact hn (e ▸ ha)⟩, fun y hy => by
    rcases List.mem_append.1 hy with h1 | h1
    · exact h.here y h1
    · rw [List.mem_singleton.1 h1]; exact hx⟩
/-- What is new came of this type or of what lies within it. -/
def NewIn (l : List TypeD) (n : Nat) (K K' : List Int) : Prop := ∀ k ∈ K', k ∈ K ∨ ∃ m : Nat, k = (m : Int) ∧ (m = n ∨ ∃ h : n < l.length, Reach l insideD (insideD l[n]) m)

set_option maxRecDepth 100000 in
set_option maxHeartbeats 8000000 in
theorem iSizeWithin (l : List TypeD) (hg : good l) (a : Option Addr) (c g : Nat) : ∀ (r n : Nat) (K : List Int) (w : World), Rk l r n → Known l K → KMap (sizeS l) w g K → Rows typeS (fun b => b ≠ g) w a l →
    Calls Try.prog 60 #[.slice a l.length c, .int .i64 n, .map (some g)] w fun e w' => e = .returned (.int .i64 (sizeS l n)) ∧ (∃ K', (∀ k ∈ K, k ∈ K') ∧ (n : Int) ∈ K' ∧ NewIn l n K K' ∧ Known l K' ∧ KMap (sizeS l) w' g K') ∧ Only g w w' := by
  intro r
  induction r with
  | zero => intro n K w h; cases h
  | succ r ih =>
    intro n K w hrk hK hmap hr
    obtain ⟨hn, hparts⟩ := hrk
    have IH := Lib.hid ih
    have Hg := Lib.hid hg
    have HK := Lib.hid hK
    have Hr := Lib.hid hr
    have h24 := hg.1.most
    have hKl := hK.len h24
    have hwf : (Lit.int .i64 (n : Int)).wf = true := wfInt (by omega) (by omega)
    obtain ⟨z, hlook, hz⟩ := hmap.look Try.underlying73 hwf
    have Hmap := Lib.hid hmap
    have hgl := hmap.lt
    clear hmap ih
    by_cases hin : (n : Int) ∈ K
    · have hze := hz hin
      rw [decide_eq_true hin, hze] at hlook
      have Hin := Lib.hid hin
      clear hin hz hze
      go_enter Try.func60, Try.ntmps60
      go_wp2_with fail
      go_ret
      exact ⟨rfl, ⟨K, fun _ h => h, Hin.out, fun _ h => .inl h, HK.out, Hmap.out⟩, Only.refl _ _⟩
    · rw [decide_eq_false hin] at hlook
      have Hnin := Lib.hid hin
      obtain ⟨b, o, a3, c3, rfl, hbl, hbq, e0, e1, e2, e3, e4, e5, hrf⟩ := type_at hr hn
      have Hrf := Lib.hid hrf.any
      have Heq := Lib.hid (sizeS_eq hg hn)
      have Hbd := Lib.hid (fun x => sizeS_bounds hg.1 x)
      have hft := hg.1.six l[n] (List.getElem_mem hn)
      have Hpl := Lib.hid (inside_len hft)
      have Hround := Lib.hid (hg.2 n hn)
      have Hparts := Lib.hid hparts
      have Hnew := Lib.hid (show ∀ m : Nat, Reach l insideD (insideD l[n]) m → ∃ h : n < l.length, Reach l insideD (insideD l[n]) m from fun m h => ⟨hn, h⟩)
      have hkd := kindZ_in hn
      clear hr hrf hin hz hparts hkd
      go_enter Try.func60, Try.ntmps60
      go_wp2_with fail
      refine (iInsideOf l[n] a3 c3 w (by omega) Hrf.out).mono ?_
      rintro e w1 ⟨v1, rfl, hown1, hb1⟩
      obtain ⟨pa, pc, rfl, _, hpn⟩ := hown1.nums
      have O1 := Lib.hid hown1
      have B1 := Lib.hid hb1
      have M1 := Lib.hid (Hmap.out.below hb1)
      have hs1 := hb1.size
      clear hown1 hb1 hpn
      go_wp2_with fail
      go_loopw [26, 9] (fun i sv wr => ∃ (k : Nat) (K' : List Int), i = .int .i64 k ∧ sv = .int .i64 (sumZ (sizeS l) ((insideD l[n]).take k)) ∧ k ≤ (insideD l[n]).length ∧ (∀ y ∈ K, y ∈ K') ∧ (∀ y ∈ K', y ∈ K ∨ ∃ m : Nat, y = (m : Int) ∧ Reach l insideD (insideD l[n]) m) ∧ Known l K' ∧ KMap (sizeS l) wr g K' ∧ Only g w1 wr) (fun i _ _ => (insideD l[n]).length - (intOf i).toNat)
      case atStart => exact ⟨0, K, rfl, rfl, by omega, fun _ h => h, fun _ h => .inl h, HK.out, M1.out, Only.refl _ _⟩
      case round =>
        rename_i wr sv
        obtain ⟨k, K', rfl, rfl, hk, hsub, hnew, hK', hmap', honly⟩ := hrel
        have Hsub := Lib.hid hsub
        have Hne := Lib.hid hnew
        have HK2 := Lib.hid hK'
        have Hm2 := Lib.hid hmap'
        have Ho2 := Lib.hid honly
        have OW := Lib.hid (((Only.ofBelow (g := g) B1.out).trans honly))
        clear hsub hnew hK' hmap' honly
        have hsb := sumZ_bounds Hbd.out ((insideD l[n]).take k)
        have hpl := Hpl.out
        have htk : ((insideD l[n]).take k).length ≤ 7 := by rw [List.length_take]; omega
        have hs0 := hsb.1
        have hs1' : sumZ (sizeS l) ((insideD l[n]).take k) ≤ 7000000007 := by
          have h7 : (((insideD l[n]).take k).length : Int) * 1000000001 ≤ 7 * 1000000001 := by omega
          omega
        by_cases hlt : k < (insideD l[n]).length
        · obtain ⟨m, hxm, hrm⟩ := Hparts.out _ (List.getElem_mem hlt)
          have hmem : (m : Int) ∈ insideD l[n] := hxm ▸ List.getElem_mem hlt
          have hml := hrm.lt
          have hnums := (O1.out.keep (w' := wr) (fun q hq => Ho2.out.block q (World.ownsRow.lt O1.out q hq).2 (fun e => by have := (World.ownsRow.lt O1.out q hq).1; injection e with e; omega)))
          obtain ⟨pa', pc', hpe, _, hpn⟩ := hnums.nums
          injection hpe with hpe1 _ hpe3
          subst hpe1
          subst hpe3
          obtain ⟨pb, po, rfl, _, p0⟩ := hpn k hlt
          rw [hxm] at p0
          have Hsn := Lib.hid (show sumZ (sizeS l) ((insideD l[n]).take (k + 1)) = sumZ (sizeS l) ((insideD l[n]).take k) + sizeS l (m : Int) by rw [List.take_succ_eq_append_getElem hlt, sumZ_append, hxm])
          have hmb := Hbd.out (m : Int)
          have Hmem := Lib.hid hmem
          have Hrm := Lib.hid hrm
          clear hnums hpn hmem hxm
          go_wp2_with fail
          refine (IH.out m K' wr Hrm.out HK2.out Hm2.out (Hr.out.only OW.out)).mono ?_
          rintro e w3 ⟨rfl, ⟨K3, h1, h2, h3, h4, h5⟩, h6⟩
          have Hs3 := Lib.hid (fun y (hy : y ∈ K) => h1 y (Hsub.out y hy))
          have Hn3 := Lib.hid (show ∀ y ∈ K3, y ∈ K ∨ ∃ q : Nat, y = (q : Int) ∧ Reach l insideD (insideD l[n]) q from fun y hy => by
            rcases h3 y hy with h | ⟨q, e, h⟩
            · exact Hne.out y h
            · refine .inr ⟨q, e, ?_⟩
              rcases h with rfl | ⟨hml', hre⟩
              · exact .start Hmem.out
              · exact Reach.trans hml' (.start Hmem.out) hre)
          have Hk3 := Lib.hid h4
          have Hm3 := Lib.hid h5
          have Ho3 := Lib.hid (Ho2.out.trans h6)
          clear h1 h2 h3 h4 h5 h6
          go_wp2_with fail
          go_round
          case rel =>
            exact ⟨k + 1, K3, by go_num, by rw [Hsn.out], by omega, Hs3.out, Hn3.out, Hk3.out, Hm3.out, Ho3.out⟩
          case measure => simp [intOf]; omega
        · obtain rfl : k = (insideD l[n]).length := by omega
          rw [List.take_length] at *
          obtain ⟨b', o', a3', c3', hbo, _, _, f0, f1, _, _, _, _, _⟩ := type_at (Hr.out.only OW.out) hn
          cases hbo
          have hbs := Hbd.out (n : Int)
          have hone := Heq.out
          have Hnin2 := Lib.hid (show (n : Int) ∉ K' from fun h => by
            rcases Hne.out _ h with h | ⟨m, e, h⟩
            · exact Hnin.out h
            · have : n = m := by omega
              subst this
              exact Hround.out ⟨hn, h⟩)
          have hK2 := HK2.out.len h24
          obtain ⟨w5, hput, hm5, hg5⟩ := Hm2.out.put Try.underlying73 (by unfold maxLen; omega) hwf (wfBig hbs.1 hbs.2)
          have Hend := Lib.hid (show ∃ K', (∀ k ∈ K, k ∈ K') ∧ (n : Int) ∈ K' ∧ NewIn l n K K' ∧ Known l K' ∧ KMap (sizeS l) w5 g K' from ⟨K' ++ [(n : Int)], fun y hy => by simp [Hsub.out y hy], by simp, fun y hy => by
            rcases List.mem_append.1 hy with h | h
            · rcases Hne.out y h with h | ⟨m, e, h⟩
              · exact .inl h
              · exact .inr ⟨m, e, .inr ⟨hn, h⟩⟩
            · exact .inr ⟨n, List.mem_singleton.1 h, .inl rfl⟩, HK2.out.put ⟨by omega, by omega⟩ Hnin2.out, hm5⟩)
          have Ho5 := Lib.hid (OW.out.trans hg5)
          clear hm5 hg5
          unfold oneS at hone
          have Hlong := Lib.hid (show l[n].fKind = 4 → 0 ≤ l[n].fLong ∧ l[n].fLong ≤ 1000 from fun h4 => by
            rcases Hg.out.1.ok n hn with ⟨h3, hb⟩ | ⟨_, ho⟩
            · have := hb.2.1; omega
            · rcases ho.2 with ⟨_, q, _⟩ | ⟨_, q, _⟩ | ⟨_, q, _⟩ <;> omega)
          obtain ⟨S, hS⟩ : ∃ S, sizeS l (n : Int) = S := ⟨_, rfl⟩
          rw [hS] at hput hone hbs
          have HS := Lib.hid hS
          clear hS
          obtain ⟨sm, hsm⟩ : ∃ sm, sumZ (sizeS l) (insideD l[n]) = sm := ⟨_, rfl⟩
          rw [hsm] at hone hs0 hs1'
          rw [hsm]
          clear hsm hsb
          generalize l[n] = t at *
          by_cases k1 : t.fKind = 1
          · rw [if_pos k1] at hone
            have q1 : (t.fKind == 1) = true := beq_iff_eq.2 k1
            subst hone
            clear k1
            go_wp2_with fail
            go_ret
            exact ⟨by rw [HS.out]; rfl, Hend.out, Ho5.out⟩
          rw [if_neg k1] at hone
          have q1 : (t.fKind == 1) = false := beq_eq_false_iff_ne.2 k1
          by_cases k2 : t.fKind = 2
          · rw [if_pos (.inl k2)] at hone
            have q2 : (t.fKind == 2) = true := beq_iff_eq.2 k2
            subst hone
            clear k1 k2
            go_wp2_with fail
            go_ret
            exact ⟨by rw [HS.out]; rfl, Hend.out, Ho5.out⟩
          have q2 : (t.fKind == 2) = false := beq_eq_false_iff_ne.2 k2
          by_cases k3 : t.fKind = 3
          · rw [if_pos (.inr k3)] at hone
            have q3 : (t.fKind == 3) = true := beq_iff_eq.2 k3
            subst hone
            clear k1 k2 k3
            go_wp2_with fail
            go_ret
            exact ⟨by rw [HS.out]; rfl, Hend.out, Ho5.out⟩
          rw [if_neg (fun h => h.elim k2 k3)] at hone
          have q3 : (t.fKind == 3) = false := beq_eq_false_iff_ne.2 k3
          by_cases k6 : t.fKind = 6
          · rw [if_pos k6] at hone
            have q6 : (t.fKind == 6) = true := beq_iff_eq.2 k6
            subst hone
            clear k1 k2 k3 k6
            go_wp2_with fail
            go_ret
            exact ⟨by rw [HS.out]; rfl, Hend.out, Ho5.out⟩
          rw [if_neg k6] at hone
          have q6 : (t.fKind == 6) = false := beq_eq_false_iff_ne.2 k6
          by_cases k4 : t.fKind = 4
          · rw [if_pos k4] at hone
            have q4 : (t.fKind == 4) = true := beq_iff_eq.2 k4
            obtain ⟨hl0, hl1⟩ := Hlong.out k4
            have hm0 : 0 ≤ sm * t.fLong := Int.mul_nonneg hs0 hl0
            have hm1 : sm * t.fLong ≤ 7000000007 * 1000 := Int.mul_le_mul hs1' hl1 hl0 (by decide)
            clear k1 k2 k3 k6 k4
            generalize hpr : sm * t.fLong = pr at *
            by_cases hc : pr ≤ 1000000001
            · rw [Int.min_eq_right hc] at hone
              subst hone
              go_wp2_with fail
              go_ret
              exact ⟨by rw [HS.out]; rfl, Hend.out, Ho5.out⟩
            · rw [Int.min_eq_left (by omega)] at hone
              subst hone
              go_wp2_with fail
              go_ret
              exact ⟨by rw [HS.out]; rfl, Hend.out, Ho5.out⟩
          · rw [if_neg k4, Int.mul_one] at hone
            have q4 : (t.fKind == 4) = false := beq_eq_false_iff_ne.2 k4
            clear k1 k2 k3 k6 k4
            by_cases hc : sm ≤ 1000000001
            · rw [Int.min_eq_right hc] at hone
              subst hone
              go_wp2_with fail
              go_ret
              exact ⟨by rw [HS.out]; rfl, Hend.out, Ho5.out⟩
            · rw [Int.min_eq_left (by omega)] at hone
              subst hone
              go_wp2_with fail
              go_ret
              exact ⟨by rw [HS.out]; rfl, Hend.out, Ho5.out⟩
end Go.Proofs.Ytlfigpdjhljdnaa
