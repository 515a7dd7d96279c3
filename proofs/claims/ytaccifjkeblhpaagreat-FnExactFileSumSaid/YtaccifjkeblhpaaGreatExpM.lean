
/-
  What is proved: the contract of the model's visit: types are numbered as they are met; the contract of the model's l4Visit: the first three types are numbered; contracts of the model's num and table, of a numbering; What is said: the order behind objects leads to what is in it; append of a whole row of params to an empty row of the call's own; the contract of the model's l4OwnObject; objects told anew, as they lie in memory; what stays of them where types are numbered; what stays of objects told anew where numbers are set in place. No condition beside what each theorem states.
-/
import Derived.Test.YtaccifjkeblhpaaGreatExp
import Derived.Test.YtaccifjkeblhpaaGreatPushAll
import Derived.Maps.AppendAt
import Derived.RegionTactic
import Derived.ChangeAlike
import Derived.Test.YtaccifjkeblhpaaGreatMark
import Derived.Deep.Upon
import Derived.Deep.AppendLies
namespace Go.Proofs.YtaccifjkeblhpaaGreat
open Go.ChangeShapes Go.WideShapes Go.ChangeAt Go.RowKit
set_option maxRecDepth 100000

/-- The model's numbering in memory: its struct at g, the places at bt, the order in a row of its own. -/
structure VSt (l : List TypeD) (a : Option Addr) (c g bt B : Nat) (w : World) (ov : Value) (o : List Int) : Prop where
  box : Box w g 147 #[.slice a l.length c, .slice (some ⟨bt, 0, none⟩) l.length l.length, ov]
  to : Box w bt 3 (toA l.length o)
  own : OwnInts w B ov o
  met : Met l o
  gB : g < B
  tB : bt < B
  ne : g ≠ bt
  rows : Rows typeS (fun b => b < B ∧ b ≠ g ∧ b ≠ bt) w a l
  hB : B ≤ w.heap.size
theorem VSt.far {l : List TypeD} {a : Option Addr} {c g bt B : Nat} {w : World} {ov : Value} {o : List Int} (h : VSt l a c g bt B w ov o) : ∀ k, ov.ownBlock = some k → B ≤ k := fun k hk => (World.ownsRow.lt h.own k hk).1
theorem VSt.below {l : List TypeD} {a : Option Addr} {c g bt B : Nat} {w w' : World} {ov : Value} {o : List Int} (h : VSt l a c g bt B w ov o) (hb : Below w.heap.size w w') : VSt l a c g bt B w' ov o :=
  ⟨h.box.below hb h.box.lt, h.to.below hb h.to.lt, ⟨h.own.1, h.own.2.imp id (fun ⟨q, cap, cur, h1, h2, h3, h4⟩ => ⟨q, cap, cur, h1, h2, (hb.block q (Array.getElem?_eq_some_iff.1 h3).1).trans h3, h4⟩)⟩, h.met, h.gB, h.tB, h.ne, h.rows.below hb, Nat.le_trans h.hB hb.size⟩
def PostV (l : List TypeD) (a : Option Addr) (c g bt B : Nat) (w : World) (ov : Value) (_ o' : List Int) (e : Ending) (w' : World) : Prop := e = .returned (.tuple #[]) ∧ ∃ ov', VSt l a c g bt B w' ov' o' ∧ OnlyP g bt ov w w' ∧ ∀ k, ov'.ownBlock = some k → ov.ownBlock = some k ∨ w.heap.size ≤ k

theorem wpList_pushIntV {ops : Array Oper} {rest : List Oper} {o : Oper} {a : Act} {Q : Exit → Act → World → Prop} (hgd : o.guard = none) (s x : Operand)
    (ho : o.op = .call { callee := .builtin .append, args := #[s, x], argTypes := #[82, 82] })
    (B : Nat) (w : World) (v : Value) (l : List Int) (hs : a.eval s = v) (hown : OwnInts w B v l) (u : Int) (g : Nat) (hx : a.eval x = .slice (some ⟨g, 0, none⟩) 1 1) (hg : g = w.heap.size)
    (h63 : l.length + 1 ≤ 1048577 + 1048576) (hbase : B ≤ w.heap.size)
    (h : ∀ v' w', OwnInts w' B v' (l ++ [u]) → w.grownBy w' v.ownBlock → (∀ k, v.ownBlock = some k → B ≤ k ∧ k < w.heap.size) → (∀ k, v'.ownBlock = some k → v.ownBlock = some k ∨ w.heap.size ≤ k) → wpList Tryz.prog ops Q rest (a.put o.dst v') w') : wpList Tryz.prog ops Q (o :: rest) a (w.alloc (.cells #[.int .i64 u] 3)) := by
  subst hg
  obtain ⟨i0, hi, hz0, hz1, hz2⟩ := info_parts infoInt
  exact wpList_append_own_at _ hgd s x 82 ho B 3 i0 (.int .i64 0) 1 8 Tryz.underlying82 hi hz0 hz1 hz2 rfl (by decide) v l.length (l.map (Value.int .i64)) hs (hown.alloc _) ⟨w.heap.size, 0, none⟩ 1 1 [.int .i64 u] hx rfl (cell_one_new _ _ _)
    (fun y hy => by rw [List.mem_singleton.1 hy]; rfl) (by unfold maxLen; omega) (by omega) (by simp; omega) (fun v' w' h1 h2 _ h4 => h v' w' (by unfold OwnInts; simpa using h1) ⟨h2.os, h2.tape, h2.output, by have := h2.size; simp at this; omega, fun k hk hn => (h2.block k (by simp; omega) hn).trans (Below.heap_alloc w _ k hk)⟩ (World.ownsRow.lt hown) (fun k hk => by
      rcases h4 with h4 | h4
      · exact .inl (h4 ▸ hk)
      · rw [h4] at hk; injection hk with hk; simp at hk; exact .inr (by omega)))
set_option maxHeartbeats 16000000 in
theorem sVisit (l : List TypeD) (hl : Leads l) (hl24 : l.length ≤ 24) (hf6 : ∀ t ∈ l, t.fFields.length ≤ 6) (a : Option Addr) (c g bt B : Nat) : ∀ (r : Nat) (o : List Int) (n : Int) (ov : Value) (w : World), l.length + 1 - o.length ≤ r → TypeOr l n → VSt l a c g bt B w ov o →
    Calls Tryz.prog 64 #[.pointer (some ⟨g, 0, none⟩), .int .i64 n] w (PostV l a c g bt B w ov o (visitZ l o n)) := by
  intro r
  induction r with
  | zero =>
    intro o n ov w hr _ hv
    have := hv.met.len
    omega
  | succ r ih =>
    intro o n ov w hr hn hv
    have HV := Lib.hid hv
    have IH := Lib.hid ih
    have hfar := hv.far
    have x0 : _ = some (Value.slice a l.length c) := hv.box.cell 0
    have x1 : _ = some (Value.slice (some ⟨bt, 0, none⟩) l.length l.length) := hv.box.cell 1
    have x2 : _ = some ov := hv.box.cell 2
    clear ih
    go_enter Tryz.func64, Tryz.ntmps64
    rcases hn with hn | ⟨k, rfl, hk⟩
    · rw [visit_out (by omega)]
      clear x0 x1 x2
      go_wp2_with fail
      go_end0
      exact ⟨rfl, ov, HV.out, OnlyP.refl _ _ _ _, fun _ h => .inl h⟩
    · have hk0 : ¬ (k : Int) < 0 := by omega
      have i1 : (0 : Int) ≤ (k : Int) := by omega
      have i2 : (k : Int) < (l.length : Int) := by omega
      have tk := (HV.out.to.cell k).trans (toA_get o hk)
      by_cases ho : (k : Int) ∈ o
      · rw [visit_old ho]
        have hz := toZ_in ho
        generalize toZ o k = z at *
        go_wp2_with fail
        go_end0
        exact ⟨rfl, ov, HV.out, OnlyP.refl _ _ _ _, fun _ h => .inl h⟩
      · rw [toZ_out ho] at tk
        have Hnew := Lib.hid (visit_new HV.out.met hk ho)
        obtain ⟨oa, oc, rfl, _, _⟩ := HV.out.own.nums
        have hlo := HV.out.met.len
        have hp := HV.out.met.put (n := (k : Int)) (by omega) ho
        have hpl := hp.len
        simp only [List.length_append, List.length_singleton] at hpl
        have HP := Lib.hid hp
        have ft := HV.out.to.free k
        have hw1 : Only bt w ((w.setCell ⟨bt, k, none⟩ (.int .i64 (o.length : Int))).drew) := ((Only.refl bt w).set k _).drew
        have X1 := Lib.hid (show Box ((w.setCell ⟨bt, k, none⟩ (.int .i64 (o.length : Int))).drew) g 147 _ from HV.out.box.only hw1 HV.out.ne)
        have T1 := Lib.hid (show Box ((w.setCell ⟨bt, k, none⟩ (.int .i64 (o.length : Int))).drew) bt 3 (toA l.length (o ++ [(k : Int)])) by rw [← toA_put hk ho]; exact (show Box (w.setCell ⟨bt, k, none⟩ (.int .i64 (o.length : Int))) bt 3 _ from HV.out.to.set k _))
        have O1 := Lib.hid (show OwnInts ((w.setCell ⟨bt, k, none⟩ (.int .i64 (o.length : Int))).drew) B (.slice oa o.length oc) o from ⟨HV.out.own.1, HV.out.own.2.imp id (fun ⟨q, cap, cur, h1, h2, h3, h4⟩ => ⟨q, cap, cur, h1, h2, (hw1.block q (Array.getElem?_eq_some_iff.1 h3).1 (fun e => by injection e with e; have := HV.out.tB; omega)).trans h3, h4⟩)⟩)
        have P1 := Lib.hid (show OnlyP g bt (.slice oa o.length oc) w ((w.setCell ⟨bt, k, none⟩ (.int .i64 (o.length : Int))).drew) from .ofOnly' hw1)
        have y2 : _ = some (Value.slice oa o.length oc) := X1.out.cell 2
        have hB1 : B ≤ ((w.setCell ⟨bt, k, none⟩ (.int .i64 (o.length : Int))).drew).heap.size := Nat.le_trans HV.out.hB hw1.size
        have hfree := fun i => X1.out.free i
        clear hp ho
        go_wp2_with fail
        go_region
        generalize (w.setCell ⟨bt, k, none⟩ (.int .i64 (o.length : Int))).drew = w1 at *
        clear tk
        go_wp2_with (at_builtin; refine wpList_pushIntV rfl (.tmp 33) (.tmp 35) rfl B _ _ o rfl O1.out _ _ rfl (by simp) (by omega) hB1 ?_)
        intro v' w2 hown2 hg2 hlt2 hq2
        have hx2 := (hg2.block g X1.out.lt (fun e => by have := (hlt2 _ e.symm).1; have := HV.out.gB; omega)).trans X1.out
        have X2 := Lib.hid (show Box w2 g 147 #[.slice a l.length c, .slice (some ⟨bt, 0, none⟩) l.length l.length, .slice oa o.length oc] from hx2)
        have T2 := Lib.hid (show Box w2 bt 3 (toA l.length (o ++ [(k : Int)])) from (hg2.block bt T1.out.lt (fun e => by have := (hlt2 _ e.symm).1; have := HV.out.tB; omega)).trans T1.out)
        have P2 := Lib.hid (P1.out.trans (v' := .slice oa o.length oc) (.ofGrown hg2) (fun _ h => .inl h))
        have hv2 : ∀ q, v'.ownBlock = some q → (Value.slice oa o.length oc).ownBlock = some q ∨ w.heap.size ≤ q := fun q hq => by
          rcases hq2 q hq with h | h
          · exact .inl h
          · exact .inr (Nat.le_trans P1.out.size h)
        have O2 := Lib.hid hown2
        have hB2 := P2.out.size
        have f2 := X2.out.free 2
        have z2 : _ = some (Value.slice oa o.length oc) := X2.out.cell 2
        clear y2 hg2 hx2 hown2 X1 T1 O1 P1
        have X3 := Lib.hid (show Box (w2.setCell ⟨g, 2, none⟩ v') g 147 #[.slice a l.length c, .slice (some ⟨bt, 0, none⟩) l.length l.length, v'] from X2.out.set 2 v')
        obtain ⟨va, n1, vc, rfl⟩ : ∃ x n c, v' = .slice x n c := by
          obtain ⟨x, c, h, _⟩ := O2.out.nums
          exact ⟨x, _, c, h⟩
        have hon3 : Only g w2 (w2.setCell ⟨g, 2, none⟩ (.slice va n1 vc)) := (Only.refl g w2).set 2 _
        have V3 := Lib.hid (show VSt l a c g bt B (w2.setCell ⟨g, 2, none⟩ (.slice va n1 vc)) (.slice va n1 vc) (o ++ [(k : Int)]) from
          ⟨X3.out, T2.out.only hon3 (Ne.symm HV.out.ne), ⟨O2.out.1, O2.out.2.imp id (fun ⟨q, cap, cur, h1, h2, h3, h4⟩ => ⟨q, cap, cur, h1, h2, (hon3.block q (Array.getElem?_eq_some_iff.1 h3).1 (fun e => by injection e with e; have := HV.out.gB; omega)).trans h3, h4⟩)⟩, HP.out, HV.out.gB, HV.out.tB, HV.out.ne,
            (P2.out.set 2 (.slice va n1 vc)).rows HV.out.rows hfar, Nat.le_trans HV.out.hB (Nat.le_trans hB2 hon3.size)⟩)
        have P3 := Lib.hid (P2.out.set 2 (.slice va n1 vc))
        have hr2 := P2.out.rows HV.out.rows hfar
        obtain ⟨b, ro, cs, rfl, hblt, hb1, hc1, hat⟩ := hr2 k hk
        obtain ⟨a3, c3, rfl, hrf, hfc⟩ := hat
        have hS : typeS.n = 6 := rfl
        have e2 := hc1 2 (by decide)
        have e3 := hc1 3 (by decide)
        rw [hS] at e2 e3
        simp at e2 e3
        have hlead := hl k hk
        have hf6k := hf6 l[k] (List.getElem_mem hk)
        have hkid : kidsD l[k] = l[k].fBase :: l[k].fFields.map FieldD.fType := rfl
        rw [hkid] at hlead
        have Hkid := Lib.hid hkid
        have Hlead := Lib.hid hlead
        have hB3 := P3.out.size
        have hv3 : ∀ q, (Value.slice va n1 vc).ownBlock = some q → (Value.slice oa o.length oc).ownBlock = some q ∨ w.heap.size ≤ q := hv2
        have hbg : b ≠ g := hblt.2.1
        have hgb : g ≠ b := Ne.symm hbg
        have y0 : _ = some (Value.slice (some ⟨b, ro, none⟩) l.length c) := X2.out.cell 0
        have RF3 := Lib.hid (hrf.keep (fun q hq hl => hon3.block q hl (fun e => by injection e with e; exact hq.2.1 e)) hon3.size)
        have e33 := (World.cell?_of_block (a := ⟨b, ro + k * 6 + 3, none⟩) (hon3.block b hb1 (fun e => by injection e with e; exact hbg e))).trans e3
        have hb3 := Nat.lt_of_lt_of_le hb1 hon3.size
        clear hrf hkid hlead X3 T2 O2 X2 P2 hon3 hc1 hr2
        generalize l[k] = t at *
        go_wp2_with fail
        refine (IH.out (o ++ [(k : Int)]) t.fBase _ _ (by simp; omega) (Hlead.out _ (by simp)) V3.out).mono ?_
        rintro e w4 ⟨rfl, ov4, hv4, hp4, hq4⟩
        have V4 := Lib.hid hv4
        have P4 := Lib.hid (P3.out.trans hp4 hv3)
        have Q4 := Lib.hid (show ∀ q, ov4.ownBlock = some q → (Value.slice oa o.length oc).ownBlock = some q ∨ w.heap.size ≤ q from fun q hq => by
          rcases hq4 q hq with h | h
          · exact hv3 q h
          · exact .inr (Nat.le_trans hB3 h))
        have RF4 := Lib.hid (hp4.rows RF3.out V3.out.far)
        have z0 : _ = some (Value.slice (some ⟨b, ro, none⟩) l.length c) := V4.out.box.cell 0
        have z3 := (World.cell?_of_block (a := ⟨b, ro + k * 6 + 3, none⟩) (hp4.block hb3 hblt.2.1 hblt.2.2 (fun e => by have := V3.out.far b e; omega))).trans e33
        clear hv4 hp4 hq4 e2 e3 e33 RF3 P3 y0 z2
        go_wp2_with fail
        go_loopw [58] (fun i wr => ∃ (q : Nat) (ov' : Value), i = .int .i64 q ∧ q ≤ t.fFields.length ∧ VSt l (some ⟨b, ro, none⟩) c g bt B wr ov' (((t.fFields.take q).map FieldD.fType).foldl (visitZ l) (visitZ l (o ++ [(k : Int)]) t.fBase)) ∧ OnlyP g bt (.slice oa o.length oc) w wr ∧ (∀ q, ov'.ownBlock = some q → (Value.slice oa o.length oc).ownBlock = some q ∨ w.heap.size ≤ q) ∧ Rows fieldS (fun b => b < B ∧ b ≠ g ∧ b ≠ bt) wr a3 t.fFields) (fun i _ => t.fFields.length - (intOf i).toNat)
        case atStart => exact ⟨0, ov4, rfl, by omega, V4.out, P4.out, Q4.out, RF4.out⟩
        case round =>
          obtain ⟨q, ov', rfl, hq, hvq, hpq, hqq, hrq⟩ := hrel
          have VQ := Lib.hid hvq
          have PQ := Lib.hid hpq
          have QQ := Lib.hid hqq
          have RQ := Lib.hid hrq
          clear hvq hpq hqq
          by_cases hlt : q < t.fFields.length
          · obtain ⟨fb, fo, cs, rfl, _, hfb, hc1', hat⟩ := hrq q hlt
            obtain rfl : cs = [.string t.fFields[q].fName, .int .i64 t.fFields[q].fMark, .int .i64 t.fFields[q].fType] := hat
            have hn3 : fieldS.n = 3 := rfl
            have g0 := hc1' 0 (by decide)
            have g1 := hc1' 1 (by decide)
            have g2 := hc1' 2 (by decide)
            rw [hn3] at g0 g1 g2
            simp at g0 g1 g2
            have j1 : (0 : Int) ≤ (q : Int) := by omega
            have j2 : (q : Int) < (t.fFields.length : Int) := by omega
            have Hnx := Lib.hid (show ((t.fFields.take (q + 1)).map FieldD.fType).foldl (visitZ l) (visitZ l (o ++ [(k : Int)]) t.fBase) = visitZ l (((t.fFields.take q).map FieldD.fType).foldl (visitZ l) (visitZ l (o ++ [(k : Int)]) t.fBase)) t.fFields[q].fType by
              rw [List.take_succ_eq_append_getElem hlt, List.map_append, List.foldl_append]
              rfl)
            have hty := Hlead.out t.fFields[q].fType (List.mem_cons_of_mem _ (List.mem_map_of_mem (List.getElem_mem hlt)))
            have Hty := Lib.hid hty
            have hgo := (visit_goes t.fBase HP.out).2.trans (fold_goes (l := l) (fun _ n ho => visit_goes n ho) ((t.fFields.take q).map FieldD.fType) _ (visit_goes t.fBase HP.out).1).2
            have hglen := hgo.len
            simp only [List.length_append, List.length_singleton] at hglen
            clear hrq hc1' hty hgo
            generalize t.fFields[q] = f at *
            generalize hoq : ((t.fFields.take q).map FieldD.fType).foldl (visitZ l) (visitZ l (o ++ [(k : Int)]) t.fBase) = oq at *
            clear hoq
            go_wp2_with fail
            refine (IH.out oq f.fType ov' _ (by omega) Hty.out (VQ.out.below ((Below.refl _ _).alloc (Nat.le_refl _) (.cells #[.string f.fName, .int .i64 f.fMark, .int .i64 f.fType] 135)))).mono ?_
            rintro e w6 ⟨rfl, ov6, hv6, hp6, hq6⟩
            have V6 := Lib.hid hv6
            have P6 := Lib.hid ((PQ.out.alloc (.cells #[.string f.fName, .int .i64 f.fMark, .int .i64 f.fType] 135)).trans hp6 QQ.out)
            have Q6 := Lib.hid (show ∀ q, ov6.ownBlock = some q → (Value.slice oa o.length oc).ownBlock = some q ∨ w.heap.size ≤ q from fun q hq => by
              rcases hq6 q hq with h | h
              · exact QQ.out q h
              · have := PQ.out.size; simp at h; exact .inr (by omega))
            have R6 := Lib.hid (hp6.rows (RQ.out.below ((Below.refl _ _).alloc (Nat.le_refl _) (.cells #[.string f.fName, .int .i64 f.fMark, .int .i64 f.fType] 135))) VQ.out.far)
            clear hv6 hp6 hq6
            go_wp2_with fail
            exact ⟨⟨q + 1, ov6, by congr 1, by omega, by rw [Hnx.out]; exact V6.out, P6.out, Q6.out, R6.out⟩, by simp [intOf]; omega⟩
          · obtain rfl : q = t.fFields.length := by omega
            have VE := VQ.out
            rw [List.take_length] at VE
            have VE2 := Lib.hid VE
            clear VE hrq
            rw [Hnew.out, Hkid.out, List.foldl_cons]
            go_wp2_with fail
            go_end0
            exact ⟨rfl, ov', VE2.out, PQ.out, QQ.out⟩
end Go.Proofs.YtaccifjkeblhpaaGreat

namespace Go.Proofs.YtaccifjkeblhpaaGreat
open Go.ChangeShapes Go.WideShapes Go.ChangeAt Go.RowKit
set_option maxRecDepth 100000

def intsV (zs : List Int) : Array Value := (zs.map (Value.int .i64)).toArray
theorem intsV_at {zs : List Int} {k : Nat} (h : k < zs.length) : (intsV zs)[k]? = some (.int .i64 zs[k]) := by simp [intsV, h]
theorem intsV_set (zs : List Int) (k : Nat) (z : Int) : (intsV zs).setIfInBounds k (.int .i64 z) = intsV (zs.set k z) := by
  apply Array.ext
  · simp [intsV]
  · intro j h1 h2
    have hj : j < zs.length := by simpa [intsV] using h2
    by_cases e : j = k
    · subst e; simp [intsV]
    · rw [Array.getElem_setIfInBounds_ne (by simpa [intsV] using hj) (by omega)]
      simp [intsV, List.getElem_set_ne (Ne.symm e)]
theorem makeIntsV (n : Nat) (W : World) (hn : n ≤ 1048576) : (Instr.makeSlice 82 (.int .i64 (n : Int)) (.int .i64 (n : Int))).run Tryz.prog W = .ok (.slice (some ⟨W.heap.size, 0, none⟩) n n) (W.alloc (.cells (intsV (List.replicate n 0)) 3)) := by
  obtain ⟨i0, hi0, hz0, hz1, hz2⟩ := info_parts infoInt
  have := run_make (P := Tryz.prog) W 82 3 i0 _ Tryz.underlying82 hi0 hz0 .i64 .i64 (n : Int) (n : Int) (by omega) (by omega) (by rw [hz2]; omega) (by omega)
  rw [this, hz1, Nat.mul_one, show (Value.int .i64 0).cells = #[.int .i64 0] from rfl]
  have : madeCells #[.int .i64 0] n = intsV (List.replicate n 0) := by
    apply Array.ext
    · simp [size_madeCells, intsV]
    · intro i h1 h2
      simp [madeCells, intsV, Nat.mod_one]
  rw [← this]
  simp
theorem intsV_none {zs : List Int} {n : Nat} (hl : zs.length = n) (h : ∀ j (h : j < zs.length), zs[j] = -1) : intsV zs = toA n [] := by
  apply Array.ext
  · simp [intsV, toA, hl]
  · intro j h1 h2
    have hj : j < zs.length := by simpa [intsV] using h1
    simp [intsV, toA, h j hj, toZ_out]
/-- The first k numbers. -/
def firstK : Nat → List Int
  | 0 => []
  | k + 1 => firstK k ++ [(k : Int)]
theorem firstK_mem {k : Nat} {x : Int} (h : x ∈ firstK k) : 0 ≤ x ∧ x < (k : Int) := by
  induction k with
  | zero => cases h
  | succ k ih =>
    unfold firstK at h
    rcases List.mem_append.1 h with h | h
    · have := ih h; omega
    · rw [List.mem_singleton.1 h]; omega
theorem firstK_len : ∀ k, (firstK k).length = k
  | 0 => rfl
  | k + 1 => by unfold firstK; rw [List.length_append, firstK_len k]; rfl
theorem firstK_visit {l : List TypeD} (hb : baseOk l) {k : Nat} (hk : k < 3) (hm : Met l (firstK k)) : visitZ l (firstK k) (k : Int) = firstK (k + 1) := visit_base hb hm hk (fun h => by have := firstK_mem h; omega)
set_option maxHeartbeats 16000000 in
theorem sVisitAll (l : List TypeD) (hg : near l) (a : Option Addr) (c : Nat) (w : World) (hr : Rows typeS Any w a l) :
    Calls Tryz.prog 63 #[.slice a l.length c] w fun e w' => ∃ g bt ov B, e = .returned (.pointer (some ⟨g, 0, none⟩)) ∧ w.heap.size ≤ g ∧ w.heap.size ≤ bt ∧ w.heap.size ≤ B ∧ VSt l a c g bt B w' ov (firstK 3) ∧ Below w.heap.size w w' := by
  have h24 := hg.most
  have h3 := hg.three
  have km := fun W => makeIntsV l.length W (by omega)
  have Hr := Lib.hid (hr.mono (Q' := fun q => q < w.heap.size) (fun q _ hl => hl))
  have Hg := Lib.hid hg
  clear hr
  go_enter Tryz.func63, Tryz.ntmps63
  go_wp2_with fail
  go_loopw [17] (fun i wr => ∃ (k : Nat) (zs : List Int), i = .int .i64 k ∧ k ≤ l.length ∧ zs.length = l.length ∧ (∀ j (h : j < zs.length), j < k → zs[j] = -1) ∧ Box wr w.heap.size 3 (intsV zs) ∧ Box wr (w.heap.size + 1) 147 #[.slice a l.length c, .slice (some ⟨w.heap.size, 0, none⟩) l.length l.length, .slice none 0 0] ∧ Below w.heap.size w wr) (fun i _ => l.length - (intOf i).toNat)
  case atStart => exact ⟨0, List.replicate l.length 0, rfl, by omega, by simp, fun _ _ h => absurd h (by omega), (Box.new w _ _).alloc _, Box.new' _ _ _ (by simp), ((Below.refl _ _).alloc (Nat.le_refl _) _).alloc (by simp) _⟩
  case round =>
    clear km
    obtain ⟨k, zs, rfl, hk, hzl, hz, hx, hy, hbel⟩ := hrel
    have hsz := hbel.size
    by_cases hlt : k < l.length
    · have hkz : k < zs.length := by omega
      have x0 := hx.cell k
      rw [intsV_at hkz] at x0
      have xf := hx.free k
      have y1 : _ = some (Value.slice (some ⟨w.heap.size, 0, none⟩) l.length l.length) := hy.cell 1
      have hon : Only w.heap.size wr (wr.setCell ⟨w.heap.size, k, none⟩ (.int .i64 (-1))) := (Only.refl _ _).set k _
      have Hz2 := Lib.hid (show ∀ j (h : j < (zs.set k (-1)).length), j < k + 1 → (zs.set k (-1))[j] = -1 from fun j hj hjk => by
        rw [List.getElem_set]
        split
        · rfl
        · exact hz j (by rw [List.length_set] at hj; exact hj) (by omega))
      have Hx2 := Lib.hid (show Box (wr.setCell ⟨w.heap.size, k, none⟩ (.int .i64 (-1))) w.heap.size 3 (intsV (zs.set k (-1))) from intsV_set zs k (-1) ▸ hx.set k (.int .i64 (-1)))
      have Hy2 := Lib.hid (hy.only hon (by omega))
      have Hb2 := Lib.hid (hbel.setCell (p := ⟨w.heap.size, k, none⟩) (Nat.le_refl _) (.int .i64 (-1)))
      clear hz hx hy hbel hon
      generalize zs[k] = z0 at *
      go_wp2_with fail
      exact ⟨⟨k + 1, zs.set k (-1), by congr 1, by omega, by rw [List.length_set, hzl], Hz2.out, Hx2.out, Hy2.out, Hb2.out⟩, by simp [intOf]; omega⟩
    · have hx2 := hx
      rw [intsV_none hzl (fun j hj => hz j hj (by omega))] at hx2
      have V0 := Lib.hid (show VSt l a c (w.heap.size + 1) w.heap.size (w.heap.size + 2) wr (.slice none 0 0) (firstK 0) from
        ⟨hy, hx2, OwnInts.nil, met_nil l, by omega, by omega, by omega, (Hr.out.keep (fun q hq hl => hbel.block q hl) hbel.size).mono (fun q hq _ => by omega), by have := hy.lt; omega⟩)
      have B0 := Lib.hid hbel
      clear hz hx hy hbel hx2
      go_wp2_with fail
      go_loopw [5] (fun i wr => ∃ (k : Nat) (ov : Value), i = .int .i64 k ∧ k ≤ 3 ∧ VSt l a c (w.heap.size + 1) w.heap.size (w.heap.size + 2) wr ov (firstK k) ∧ Below w.heap.size w wr) (fun i _ => 3 - (intOf i).toNat)
      case atStart => exact ⟨0, _, rfl, by omega, V0.out, B0.out⟩
      case round =>
        obtain ⟨k, ov, rfl, hk, hv, hbel⟩ := hrel
        have V := Lib.hid hv
        have Bl := Lib.hid hbel
        have hsb := hbel.size
        clear hv hbel
        by_cases hlt : k < 3
        · have Hn := Lib.hid (firstK_visit Hg.out.1 hlt V.out.met)
          have hle := V.out.met.len
          go_wp2_with fail
          refine (sVisit l Hg.out.leads h24 Hg.out.six a c (w.heap.size + 1) w.heap.size (w.heap.size + 2) (l.length + 1 - (firstK k).length) (firstK k) (k : Int) ov _ (Nat.le_refl _) (.inr ⟨k, rfl, by omega⟩) V.out).mono ?_
          rintro e w2 ⟨rfl, ov2, hv2, hp2, _⟩
          rw [Hn.out] at hv2
          have V2 := Lib.hid hv2
          have B2 := Lib.hid (Bl.out.trans (hp2.below (by omega) (by omega) (fun q hq => by have := V.out.far q hq; omega) hsb))
          clear hv2 hp2
          go_wp2_with fail
          exact ⟨⟨k + 1, ov2, by congr 1, by omega, V2.out, B2.out⟩, by simp [intOf]; omega⟩
        · obtain rfl : k = 3 := by omega
          go_wp2_with fail
          go_ret
          exact ⟨_, _, ov, _, rfl, by omega, by omega, by omega, V.out, Bl.out⟩
end Go.Proofs.YtaccifjkeblhpaaGreat

namespace Go.Proofs.YtaccifjkeblhpaaGreat
open Go.ChangeShapes Go.WideShapes Go.ChangeAt Go.RowKit
set_option maxRecDepth 100000

set_option maxHeartbeats 4000000 in
theorem sNumV (l : List TypeD) (_ : l.length ≤ 24) (a : Option Addr) (c g bt B : Nat) (ov : Value) (o : List Int) (n : Int) (w : World) (hn : n < 0 ∨ n ∈ o) (hv : VSt l a c g bt B w ov o) :
    Calls Tryz.prog 66 #[.pointer (some ⟨g, 0, none⟩), .int .i64 n] w fun e w' => e = .returned (.int .i64 (numZ o n)) ∧ w = w' := by
  have x1 : _ = some (Value.slice (some ⟨bt, 0, none⟩) l.length l.length) := hv.box.cell 1
  have Ho := Lib.hid hv.to
  have Hm := Lib.hid hv.met
  clear hv
  go_enter Tryz.func66, Tryz.ntmps66
  by_cases h0 : n < 0
  · have Hz := Lib.hid (show numZ o n = n by unfold numZ; rw [if_pos h0])
    clear x1
    go_wp2_with fail
    go_ret
    exact ⟨by rw [Hz.out]; rfl, rfl⟩
  · have hmem := hn.resolve_left h0
    obtain ⟨k, rfl⟩ := Int.eq_ofNat_of_zero_le (show 0 ≤ n by omega)
    have hk : k < l.length := by have := Hm.out.here _ hmem; omega
    have Hz := Lib.hid (show numZ o (k : Int) = toZ o k by unfold numZ toZ; rw [if_neg h0, if_pos hmem])
    have tk := (Ho.out.cell k).trans (toA_get o hk)
    have i1 : (0 : Int) ≤ (k : Int) := by omega
    have i2 : (k : Int) < (l.length : Int) := by omega
    generalize toZ o k = z at *
    clear hmem hn
    go_wp2_with fail
    go_ret
    exact ⟨by rw [Hz.out]; rfl, rfl⟩

theorem infoFieldV : (Tryz.prog.info? 135).map (fun i => (i.zero, i.size, i.bytes)) = some (some (.agg #[.string ByteArray.empty, .int .i64 0, .int .i64 0]), 3, 32) := by kernel_rfl
theorem box6v {w : World} {g : Nat} {t : TypeId} {c0 c1 c2 c3 c4 c5 : Value} (h : Box w g t #[c0, c1, c2, c3, c4, c5]) : w.cell? ⟨g, 0, none⟩ = some c0 ∧ w.cell? ⟨g, 1, none⟩ = some c1 ∧ w.cell? ⟨g, 2, none⟩ = some c2 ∧ w.cell? ⟨g, 3, none⟩ = some c3 ∧ w.cell? ⟨g, 4, none⟩ = some c4 ∧ w.cell? ⟨g, 5, none⟩ = some c5 := ⟨h.cell 0, h.cell 1, h.cell 2, h.cell 3, h.cell 4, h.cell 5⟩
/-- Of an order all numbers of which are of types, and lead to what is in it. -/
def Whole (l : List TypeD) (o : List Int) : Prop := ∀ k (h : k < l.length), (k : Int) ∈ o → ∀ y ∈ kidsD l[k], y < 0 ∨ y ∈ o
set_option maxHeartbeats 16000000 in
theorem sTable (l : List TypeD) (hl24 : l.length ≤ 24) (hf6 : ∀ t ∈ l, t.fFields.length ≤ 6) (a : Option Addr) (c g bt B : Nat) (ov : Value) (o : List Int) (w : World) (hw : Whole l o) (hv : VSt l a c g bt B w ov o) :
    Calls Tryz.prog 67 #[.pointer (some ⟨g, 0, none⟩)] w fun e w' => ∃ v, e = .returned v ∧ OwnG typeS 72 w.heap.size (fun q => w.heap.size ≤ q) w' v (tableZ l o) ∧ Below w.heap.size w w' := by
  have V := Lib.hid hv
  have Hw := Lib.hid hw
  have Hf := Lib.hid hf6
  obtain ⟨oa, oc, rfl, _, hno⟩ := hv.own.nums
  have Hno := Lib.hid hno
  have x2 : _ = some (Value.slice oa o.length oc) := hv.box.cell 2
  have hol := hv.met.len
  have hgw := hv.box.lt
  obtain ⟨i0, hi, hz0, hz1, hz2⟩ := info_parts infoType
  have Hi := Lib.hid (And.intro hi (And.intro hz0 (And.intro hz1 hz2)))
  obtain ⟨j0, hj, hy0, hy1, hy2⟩ := info_parts infoFieldV
  have Hj := Lib.hid (And.intro hj (And.intro hy0 (And.intro hy1 hy2)))
  clear hi hz0 hz1 hz2 hj hy0 hy1 hy2 hv hno hw hf6
  go_enter Tryz.func67, Tryz.ntmps67
  go_wp2_with fail
  clear x2
  go_loopw [15, 3] (fun i x wr => ∃ (k : Nat) (v : Value), i = .int .i64 k ∧ x = v ∧ k ≤ o.length ∧ OwnG typeS 72 w.heap.size (fun q => w.heap.size ≤ q) wr v (tableZ l (o) |>.take k) ∧ Below w.heap.size w wr) (fun i _ _ => o.length - (intOf i).toNat)
  case atStart => exact ⟨0, _, rfl, rfl, by omega, by rw [List.take_zero]; exact OwnG.nil, Below.refl _ _⟩
  case round =>
    obtain ⟨U, hU⟩ : ∃ x, x = u3 := ⟨_, rfl⟩
    subst hU
    obtain ⟨k, v, rfl, rfl, hk, hown, hbel⟩ := hrel
    obtain ⟨wo, hwo⟩ : ∃ x, x = wr := ⟨_, rfl⟩
    subst hwo
    have hsz := hbel.size
    by_cases hlt : k < o.length
    · have hmem : o[k] ∈ o := List.getElem_mem hlt
      obtain ⟨q, hq⟩ := Int.eq_ofNat_of_zero_le (V.out.met.here _ hmem).1
      have hql : q < l.length := by have := V.out.met.here _ hmem; omega
      rw [hq] at hmem
      have hwh := Hw.out q hql hmem
      have VR := Lib.hid (V.out.below hbel)
      obtain ⟨b, ro, a3, c3, hba, hb1, e0, e1, e2, e3, e4, e5, hrf, hfc⟩ := type_cells V.out.rows.any hql hbel
      obtain ⟨nb, nof, hna, hnb, hnc⟩ := Hno.out k hlt
      have hnc2 := (hbel.cell (p := ⟨nb, nof + k, none⟩) hnb).trans hnc
      rw [hq] at hnc2
      subst hba
      subst hna
      have hf := Hf.out l[q] (List.getElem_mem hql)
      have Hnx := Lib.hid (show (tableZ l o).take (k + 1) = (tableZ l o).take k ++ [transT o l[q]] by
        rw [List.take_succ_eq_append_getElem (by simp [tableZ]; omega)]
        congr 2
        simp only [tableZ, List.getElem_map, hq, typeZat_in hql])
      have htk : ((tableZ l o).take k).length ≤ 24 := by rw [List.length_take]; simp [tableZ]; omega
      have hpl := OwnG.lt hown
      have O0 := Lib.hid (hown.mono (P' := fun q => w.heap.size ≤ q ∧ q < wo.heap.size) (fun q hq hl => ⟨hq, hl⟩))
      have Bl := Lib.hid hbel
      have RF := Lib.hid hrf
      have i1 : (0 : Int) ≤ (k : Int) := by omega
      have i2 : (k : Int) < (o.length : Int) := by omega
      have j1 : (0 : Int) ≤ (q : Int) := by omega
      have j2 : (q : Int) < (l.length : Int) := by omega
      clear hown hbel hrf hnc hq
      generalize l[q] = t at *
      have x0 : _ = some (Value.slice (some ⟨b, ro, none⟩) l.length c) := VR.out.box.cell 0
      have X1 := Lib.hid (Box.new wo 72 #[.int .i64 t.fKind, .int .i64 t.fLong, .int .i64 t.fBase, .slice a3 t.fFields.length c3, .string t.fOwner, .string t.fName])
      have B1 := Lib.hid ((Below.refl wo.heap.size wo).alloc (Nat.le_refl _) (.cells #[.int .i64 t.fKind, .int .i64 t.fLong, .int .i64 t.fBase, .slice a3 t.fFields.length c3, .string t.fOwner, .string t.fName] 72))
      go_wp2_with fail
      refine (sNumV l hl24 (some ⟨b, ro, none⟩) c g bt B (.slice (some ⟨nb, nof, none⟩) o.length oc) o t.fBase _ (hwh _ (by unfold kidsD; simp)) (VR.out.below B1.out)).mono ?_
      rintro e w1 ⟨rfl, rfl⟩
      obtain ⟨z0, hz0⟩ : ∃ z0, numZ o t.fBase = z0 := ⟨_, rfl⟩
      have Hz0 := Lib.hid hz0
      rw [hz0]
      clear hz0
      have X2 := Lib.hid (show Box (wo.alloc (.cells #[.int .i64 t.fKind, .int .i64 t.fLong, .int .i64 z0, .slice a3 t.fFields.length c3, .string t.fOwner, .string t.fName] 72)) wo.heap.size 72 #[.int .i64 t.fKind, .int .i64 t.fLong, .int .i64 z0, .slice a3 t.fFields.length c3, .string t.fOwner, .string t.fName] from Box.new wo _ _)
      have B2 := Lib.hid ((Below.refl wo.heap.size wo).alloc (Nat.le_refl _) (.cells #[.int .i64 t.fKind, .int .i64 t.fLong, .int .i64 z0, .slice a3 t.fFields.length c3, .string t.fOwner, .string t.fName] 72))
      clear X1 B1 x0
      go_wp2_with fail
      go_loopw [34, 7] (fun i x wi => ∃ (p : Nat) (fv : Value), i = .int .i64 p ∧ x = fv ∧ p ≤ t.fFields.length ∧ OwnG fieldS 135 (wo.heap.size + 1) Nowhere wi fv ((t.fFields.map (transF o)).take p) ∧ Box wi wo.heap.size 72 #[.int .i64 t.fKind, .int .i64 t.fLong, .int .i64 z0, .slice a3 t.fFields.length c3, .string t.fOwner, .string t.fName] ∧ Below wo.heap.size wo wi ∧ wo.heap.size + 1 ≤ wi.heap.size) (fun i _ _ => t.fFields.length - (intOf i).toNat)
      case atStart => exact ⟨0, _, rfl, rfl, by omega, OwnG.nil, X2.out, B2.out, by simp⟩
      case round =>
        obtain ⟨wi, hwi⟩ : ∃ x, x = wr := ⟨_, rfl⟩
        subst hwi
        obtain ⟨FV, hFV⟩ : ∃ x, x = u7 := ⟨_, rfl⟩
        subst hFV
        obtain ⟨p, fv, rfl, rfl, hp, hfo, hxb, hbi, hsi⟩ := hrel
        by_cases hlp : p < t.fFields.length
        · obtain ⟨fb, fo, cs, hfa, _, hfb, hc1', hat⟩ := RF.out p hlp
          obtain rfl : cs = [.string t.fFields[p].fName, .int .i64 t.fFields[p].fMark, .int .i64 t.fFields[p].fType] := hat
          have hn3 : fieldS.n = 3 := rfl
          have g0 := (hbi.cell (p := ⟨fb, fo + p * 3 + 0, none⟩) hfb).trans (hc1' 0 (by decide))
          have g1 := (hbi.cell (p := ⟨fb, fo + p * 3 + 1, none⟩) hfb).trans (hc1' 1 (by decide))
          have g2 := (hbi.cell (p := ⟨fb, fo + p * 3 + 2, none⟩) hfb).trans (hc1' 2 (by decide))
          simp at g0 g1 g2
          subst hfa
          have k1 : (0 : Int) ≤ (p : Int) := by omega
          have k2 : (p : Int) < (t.fFields.length : Int) := by omega
          have Hnf := Lib.hid (show (t.fFields.map (transF o)).take (p + 1) = (t.fFields.map (transF o)).take p ++ [transF o t.fFields[p]] by rw [List.take_succ_eq_append_getElem (by simpa using hlp), List.getElem_map])
          have hfk := hwh t.fFields[p].fType (by unfold kidsD; exact List.mem_cons_of_mem _ (List.mem_map_of_mem (List.getElem_mem hlp)))
          have VI := Lib.hid ((VR.out.below hbi).below ((Below.refl _ _).alloc (Nat.le_refl _) (.cells #[.string t.fFields[p].fName, .int .i64 t.fFields[p].fMark, .int .i64 t.fFields[p].fType] 135)))
          clear hc1'
          generalize t.fFields[p] = f at *
          go_wp2_with fail
          refine (sNumV l hl24 (some ⟨b, ro, none⟩) c g bt B (.slice (some ⟨nb, nof, none⟩) o.length oc) o f.fType _ hfk VI.out).mono ?_
          rintro e w5 ⟨rfl, rfl⟩
          have HTR := Lib.hid (show ∀ (Q : Nat → Prop) (W : World) (m : ByteArray), m = (if f.fMark = 0 then ⟨#[]⟩ else f.fName) → fieldS.At Q W [.string m, .int .i64 f.fMark, .int .i64 (numZ o f.fType)] (transF o f) from fun Q W m hm => by subst hm; rfl)
          obtain ⟨y0, hy0⟩ : ∃ y0, numZ o f.fType = y0 := ⟨_, rfl⟩
          rw [hy0] at HTR
          rw [hy0]
          clear hy0
          by_cases hm0 : f.fMark = 0
          · have ym : (f.fMark == 0) = true := beq_iff_eq.2 hm0
            have HTR := Lib.hid (HTR.out (fun q => Nowhere q ∧ FV.ownBlock ≠ some q) wi ⟨#[]⟩ (by rw [if_pos hm0]))
            clear hm0
            have hon : Only wi.heap.size wi (wi.alloc (.cells #[.string ⟨#[]⟩, .int .i64 f.fMark, .int .i64 y0] 135)) := ((Only.refl wi.heap.size wi).alloc (.cells #[.string ⟨#[]⟩, .int .i64 f.fMark, .int .i64 y0] 135))
            have OA := Lib.hid (hfo.keep (fun q hq hl => hon.block q hl (fun e => by injection e with e; omega)) hon.size)
            have XA := Lib.hid (hxb.only hon (by omega))
            have BA := Lib.hid (hbi.trans (⟨hon.os, hon.tape, hon.output, hon.size, fun q hq => hon.block q (by omega) (fun e => by injection e with e; omega)⟩ : Below wo.heap.size wi (wi.alloc (.cells #[.string ⟨#[]⟩, .int .i64 f.fMark, .int .i64 y0] 135))))
            have hsA : wi.heap.size < (wi.alloc (.cells #[.string ⟨#[]⟩, .int .i64 f.fMark, .int .i64 y0] 135)).heap.size := by simp
            have hpf := OwnG.lt hfo
            have hfl := show ((t.fFields.map (transF o)).take p).length ≤ 6 by rw [List.length_take, List.length_map]; omega
            clear hfo hxb hbi hon
            go_wp2_with (at_builtin; refine wpList_pushG rfl (.tmp 47) (.tmp 49) _ rfl fieldS 135 j0 (.agg #[.string ByteArray.empty, .int .i64 0, .int .i64 0]) 32 Tryz.underlying70 ?q1 ?q2 ?q3 ?q4 rfl (by decide) (by omega) (wo.heap.size + 1) Nowhere _ _ ((t.fFields.map (transF o)).take p) rfl ?q5 (transF o f) [.string ⟨#[]⟩, .int .i64 f.fMark, .int .i64 y0] _ _ rfl ?q6 ?q7 ?q8 ?q9 ?q10 ?_)
            case q1 => exact Hj.out.1
            case q2 => exact Hj.out.2.1
            case q3 => exact Hj.out.2.2.1
            case q4 => exact Hj.out.2.2.2
            case q5 => exact OA.out.alloc _
            case q6 =>
              intro j _
              refine Eq.trans ((Box.new' (g := wi.heap.size + 1) _ 135 ([.string ⟨#[]⟩, .int .i64 f.fMark, .int .i64 y0]).toArray (by simp)).cell j) ?_
              simp
            case q7 => exact HTR.out
            case q8 =>
              intro y hy
              simp only [List.mem_cons, List.not_mem_nil, or_false] at hy
              rcases hy with rfl | rfl | rfl <;> rfl
            case q9 => omega
            case q10 => simp; omega
            intro v9 w9 hown9 hg9 _
            have XB := XA.out.alloc (.cells ([.string ⟨#[]⟩, .int .i64 f.fMark, .int .i64 y0]).toArray 135)
            have X9 := Lib.hid (show Box w9 wo.heap.size 72 #[.int .i64 t.fKind, .int .i64 t.fLong, .int .i64 z0, .slice (some ⟨fb, fo, none⟩) t.fFields.length c3, .string t.fOwner, .string t.fName] from (hg9.block wo.heap.size XB.lt (fun e => by have := (hpf _ e.symm).1; omega)).trans XB)
            have B9 := Lib.hid ((BA.out.alloc BA.out.size (.cells ([.string ⟨#[]⟩, .int .i64 f.fMark, .int .i64 y0]).toArray 135)).grown hg9 (by simp; omega) (fun q hq => by have := (hpf q hq).1; omega))
            have hs9 : wo.heap.size + 1 ≤ w9.heap.size := by have := hg9.size; simp at this; omega
            rw [← Hnf.out] at hown9
            have O9 := Lib.hid hown9
            clear hown9 hg9 XB
            go_wp2_with fail
            exact ⟨⟨p + 1, _, by congr 1, rfl, by omega, O9.out, X9.out, B9.out, hs9⟩, by simp [intOf]; omega⟩
          · have ym : (f.fMark == 0) = false := beq_eq_false_iff_ne.2 hm0
            have HTR := Lib.hid (HTR.out (fun q => Nowhere q ∧ FV.ownBlock ≠ some q) wi f.fName (by rw [if_neg hm0]))
            clear hm0
            have hon : Only wi.heap.size wi (wi.alloc (.cells #[.string f.fName, .int .i64 f.fMark, .int .i64 y0] 135)) := ((Only.refl wi.heap.size wi).alloc (.cells #[.string f.fName, .int .i64 f.fMark, .int .i64 y0] 135))
            have OA := Lib.hid (hfo.keep (fun q hq hl => hon.block q hl (fun e => by injection e with e; omega)) hon.size)
            have XA := Lib.hid (hxb.only hon (by omega))
            have BA := Lib.hid (hbi.trans (⟨hon.os, hon.tape, hon.output, hon.size, fun q hq => hon.block q (by omega) (fun e => by injection e with e; omega)⟩ : Below wo.heap.size wi (wi.alloc (.cells #[.string f.fName, .int .i64 f.fMark, .int .i64 y0] 135))))
            have hsA : wi.heap.size < (wi.alloc (.cells #[.string f.fName, .int .i64 f.fMark, .int .i64 y0] 135)).heap.size := by simp
            have hpf := OwnG.lt hfo
            have hfl := show ((t.fFields.map (transF o)).take p).length ≤ 6 by rw [List.length_take, List.length_map]; omega
            clear hfo hxb hbi hon
            go_wp2_with (at_builtin; refine wpList_pushG rfl (.tmp 47) (.tmp 49) _ rfl fieldS 135 j0 (.agg #[.string ByteArray.empty, .int .i64 0, .int .i64 0]) 32 Tryz.underlying70 ?q1 ?q2 ?q3 ?q4 rfl (by decide) (by omega) (wo.heap.size + 1) Nowhere _ _ ((t.fFields.map (transF o)).take p) rfl ?q5 (transF o f) [.string f.fName, .int .i64 f.fMark, .int .i64 y0] _ _ rfl ?q6 ?q7 ?q8 ?q9 ?q10 ?_)
            case q1 => exact Hj.out.1
            case q2 => exact Hj.out.2.1
            case q3 => exact Hj.out.2.2.1
            case q4 => exact Hj.out.2.2.2
            case q5 => exact OA.out.alloc _
            case q6 =>
              intro j _
              refine Eq.trans ((Box.new' (g := wi.heap.size + 1) _ 135 ([.string f.fName, .int .i64 f.fMark, .int .i64 y0]).toArray (by simp)).cell j) ?_
              simp
            case q7 => exact HTR.out
            case q8 =>
              intro y hy
              simp only [List.mem_cons, List.not_mem_nil, or_false] at hy
              rcases hy with rfl | rfl | rfl <;> rfl
            case q9 => omega
            case q10 => simp; omega
            intro v9 w9 hown9 hg9 _
            have XB := XA.out.alloc (.cells ([.string f.fName, .int .i64 f.fMark, .int .i64 y0]).toArray 135)
            have X9 := Lib.hid (show Box w9 wo.heap.size 72 #[.int .i64 t.fKind, .int .i64 t.fLong, .int .i64 z0, .slice (some ⟨fb, fo, none⟩) t.fFields.length c3, .string t.fOwner, .string t.fName] from (hg9.block wo.heap.size XB.lt (fun e => by have := (hpf _ e.symm).1; omega)).trans XB)
            have B9 := Lib.hid ((BA.out.alloc BA.out.size (.cells ([.string f.fName, .int .i64 f.fMark, .int .i64 y0]).toArray 135)).grown hg9 (by simp; omega) (fun q hq => by have := (hpf q hq).1; omega))
            have hs9 : wo.heap.size + 1 ≤ w9.heap.size := by have := hg9.size; simp at this; omega
            rw [← Hnf.out] at hown9
            have O9 := Lib.hid hown9
            clear hown9 hg9 XB
            go_wp2_with fail
            exact ⟨⟨p + 1, _, by congr 1, rfl, by omega, O9.out, X9.out, B9.out, hs9⟩, by simp [intOf]; omega⟩
        · obtain rfl : p = t.fFields.length := by omega
          rw [show (t.fFields.map (transF o)).take t.fFields.length = t.fFields.map (transF o) from List.take_of_length_le (by simp)] at hfo
          obtain ⟨fa, fc, hfv, hfle, _, hfr⟩ := OwnG.rows (Q := fun q => wo.heap.size + 1 ≤ q) hfo (fun q hq _ => hq.elim) (fun q hq => (OwnG.lt hfo q hq).1)
          rw [List.length_map] at hfv hfle
          subst hfv
          have f3 := hxb.free 3
          have hon : Only wo.heap.size wi (wi.setCell ⟨wo.heap.size, 3, none⟩ (.slice fa t.fFields.length fc)) := (Only.refl _ _).set 3 _
          have X2 := Lib.hid (show Box (wi.setCell ⟨wo.heap.size, 3, none⟩ (.slice fa t.fFields.length fc)) wo.heap.size 72 #[.int .i64 t.fKind, .int .i64 t.fLong, .int .i64 z0, .slice fa t.fFields.length fc, .string t.fOwner, .string t.fName] from hxb.set 3 _)
          have hb2 : Below wo.heap.size wo (wi.setCell ⟨wo.heap.size, 3, none⟩ (.slice fa t.fFields.length fc)) := Below.setCell (p := ⟨wo.heap.size, 3, none⟩) hbi (Nat.le_refl _) _
          have O2 := Lib.hid ((O0.out.keep (fun q hq hl => hb2.block q hl) hb2.size).mono (P' := fun q => w.heap.size ≤ q) (fun q hq _ => hq.1))
          have AT := Lib.hid (show typeS.At (fun q => w.heap.size ≤ q ∧ U.ownBlock ≠ some q) (wi.setCell ⟨wo.heap.size, 3, none⟩ (.slice fa t.fFields.length fc)) [.int .i64 t.fKind, .int .i64 t.fLong, .int .i64 z0, .slice fa t.fFields.length fc, .string t.fOwner, .string t.fName] (transT o t) from
            ⟨fa, fc, by show _ = [_, _, Value.int .i64 (numZ o t.fBase), Value.slice fa (t.fFields.map (transF o)).length fc, _, _]; rw [Hz0.out, List.length_map]; rfl,
              (hfr.keep (fun q hq hl => hon.block q hl (fun e => by injection e with e; omega)) hon.size).mono (fun q hq _ => ⟨by omega, fun e => by have := (hpl q e).2; omega⟩), by rw [show (transT o t).fFields.length = t.fFields.length from List.length_map _]; exact hfle⟩)
          have B2 := Lib.hid (Below.setCell (p := ⟨wo.heap.size, 3, none⟩) (Bl.out.trans (hbi.mono hsz)) hsz (.slice fa t.fFields.length fc))
          have hs2 := B2.out.size
          have hso := hb2.size
          obtain ⟨v0, v1, v2, v3, v4, v5⟩ := box6v hxb
          clear hon hfr hfo hbi hb2 hxb
          obtain ⟨y0, y1, y2, y3, y4, y5⟩ := box6v X2.out
          go_wp2_with (at_builtin; refine wpList_pushG rfl (.tmp 54) (.tmp 56) _ rfl typeS 72 i0 (.agg #[.int .i64 0, .int .i64 0, .int .i64 0, .slice none 0 0, .string ByteArray.empty, .string ByteArray.empty]) 80 Tryz.underlying29 ?q1 ?q2 ?q3 ?q4 rfl (by decide) (by omega) w.heap.size (fun q => w.heap.size ≤ q) _ _ ((tableZ l o).take k) rfl ?q5 (transT o t) [.int .i64 t.fKind, .int .i64 t.fLong, .int .i64 z0, .slice fa t.fFields.length fc, .string t.fOwner, .string t.fName] _ _ rfl ?q6 ?q7 ?q8 ?q9 ?q10 ?_)
          case q1 => exact Hi.out.1
          case q2 => exact Hi.out.2.1
          case q3 => exact Hi.out.2.2.1
          case q4 => exact Hi.out.2.2.2
          case q5 => exact O2.out.alloc _
          case q6 =>
            intro j _
            refine Eq.trans ((Box.new' (g := wi.heap.size) _ 72 #[.int .i64 t.fKind, .int .i64 t.fLong, .int .i64 z0, .slice fa t.fFields.length fc, .string t.fOwner, .string t.fName] (by first | (simp; done) | (simp [World.setCell]; done))).cell j) ?_
            simp
          case q7 => exact typeS.keep AT.out (fun q _ hq => Below.heap_alloc _ _ q hq) (by simp)
          case q8 =>
            intro y hy
            simp only [List.mem_cons, List.not_mem_nil, or_false] at hy
            rcases hy with rfl | rfl | rfl | rfl | rfl | rfl <;> rfl
          case q9 => omega
          case q10 => simp at hs2 ⊢; omega
          intro v9 w9 hown9 hg9 _
          have B9 := Lib.hid ((B2.out.alloc hs2 (.cells #[.int .i64 t.fKind, .int .i64 t.fLong, .int .i64 z0, .slice fa t.fFields.length fc, .string t.fOwner, .string t.fName] 72)).grown hg9 (by simp at hs2 ⊢; omega) (fun q hq => (hpl q hq).1))
          rw [← Hnx.out] at hown9
          have O9 := Lib.hid hown9
          clear hown9 hg9 y0 y1 y2 y3 y4 y5 v0 v1 v2 v3 v4 v5
          go_wp2_with fail
          exact ⟨⟨k + 1, _, by congr 1, rfl, by omega, O9.out, B9.out⟩, by simp [intOf]; omega⟩
    · have hown2 := hown
      have htl : (tableZ l o).length = o.length := by simp [tableZ]
      rw [show k = (tableZ l o).length by omega, List.take_length] at hown2
      have O2 := Lib.hid hown2
      have Hbel := Lib.hid hbel
      clear hbel hown hown2
      go_wp2_with fail
      go_ret
      exact ⟨_, rfl, O2.out, Hbel.out⟩
end Go.Proofs.YtaccifjkeblhpaaGreat

namespace Go.Proofs.YtaccifjkeblhpaaGreat
open Go.ChangeShapes Go.WideShapes Go.ChangeAt Go.RowKit

theorem visitO_closes {l : List TypeD} (hl : Leads l) {o : List Int} (hm : Met l o) {ob : ObjectD} (hk : ∀ y ∈ namesO ob, TypeOr l y) : Closes l o (visitO l o ob) :=
  fold_closes (m := l.length + 1) (fun o n ho _ hn => visit_closes hl _ o n ho (Nat.lt_succ_self _) hn) _ _ hm (by omega) hk
theorem order_has {l : List TypeD} : ∀ (os : List ObjectD) (o : List Int), Met l o → (∀ ob ∈ os, ∀ y ∈ namesO ob, TypeOr l y) → ∀ ob ∈ os, ∀ y ∈ namesO ob, y < 0 ∨ y ∈ os.foldl (visitO l) o
  | [], _, _, _ => fun ob h => by cases h
  | x :: os, o, hm, hk => fun ob h y hy => by
    have h1 := visitO_goes x hm
    have h2 := order_goes os _ h1.1
    rw [List.foldl_cons]
    rcases List.mem_cons.1 h with rfl | h
    · rcases visitO_has hm (hk _ (by simp)) y hy with h | h
      · exact .inl h
      · exact .inr (h2.2.mem h)
    · exact order_has os _ h1.1 (fun b hb => hk b (List.mem_cons_of_mem _ hb)) ob h y hy
theorem order_closes {l : List TypeD} (hl : Leads l) : ∀ (os : List ObjectD) (o : List Int), Met l o → (∀ ob ∈ os, ∀ y ∈ namesO ob, TypeOr l y) → Closes l o (os.foldl (visitO l) o)
  | [], o, _, _ => Closes.refl l o
  | x :: os, o, hm, hk => by
    have h1 := visitO_goes x hm
    exact (visitO_closes hl hm (hk x (by simp))).trans (order_closes hl os _ h1.1 (fun b hb => hk b (List.mem_cons_of_mem _ hb))) (order_goes os _ h1.1).2
theorem base_whole {l : List TypeD} (hb : baseOk l) : Whole l [0, 1, 2] := fun k hk hm y hy => by
  have hk3 : k < 3 := by simp at hm; omega
  obtain ⟨_, _, h3, h4, _⟩ := hb.2 k hk hk3
  unfold kidsD at hy
  rw [List.eq_nil_of_length_eq_zero h4, h3] at hy
  simp at hy
  omega
/-- The order of a scope's objects is whole, and has what they name. -/
theorem orderZ_whole {l : List TypeD} (hb : baseOk l) (hl : Leads l) {os : List ObjectD} (hk : ∀ ob ∈ os, ∀ y ∈ namesO ob, TypeOr l y) : Met l (orderZ l os) ∧ Whole l (orderZ l os) ∧ ∀ ob ∈ shownO os, ∀ y ∈ namesO ob, y < 0 ∨ y ∈ orderZ l os := by
  have hm := (base_order hb).2
  have hk' : ∀ ob ∈ shownO os, ∀ y ∈ namesO ob, TypeOr l y := fun ob h => hk ob ((List.mem_filter.1 h).1)
  have h1 := order_goes (shownO os) _ hm
  refine ⟨h1.1, fun k hk2 hmem y hy => ?_, order_has _ _ hm hk'⟩
  by_cases h : (k : Int) ∈ [(0 : Int), 1, 2]
  · rcases base_whole hb k hk2 h y hy with h | h
    · exact .inl h
    · exact .inr (h1.2.mem h)
  · exact order_closes hl _ _ hm hk' k hk2 hmem h y hy
end Go.Proofs.YtaccifjkeblhpaaGreat

namespace Go.Proofs.YtaccifjkeblhpaaGreat
open Go.ChangeShapes Go.WideShapes Go.ChangeAt Go.RowKit
set_option maxRecDepth 100000

def paramCells (f : ParamD) : List Value := [.string f.fName, .bool f.fByVar, .int .i64 f.fType]
theorem flatP_len : ∀ l : List ParamD, (l.flatMap paramCells).length = l.length * 3
  | [] => rfl
  | x :: l => by rw [List.flatMap_cons, List.length_append, flatP_len l, List.length_cons]; show 3 + _ = _; omega
theorem flatP_at : ∀ (l : List ParamD) (k : Nat) (h : k < l.length) (j : Nat), j < 3 → (l.flatMap paramCells)[k * 3 + j]? = (paramCells l[k])[j]?
  | x :: l, 0, _, j, hj => by
    rw [List.flatMap_cons, List.getElem?_append_left (by show 0 * 3 + j < 3; omega)]
    simp
  | x :: l, k + 1, h, j, hj => by
    rw [List.flatMap_cons, List.getElem?_append_right (by show 3 ≤ _; omega)]
    have := flatP_at l k (by simpa using h) j hj
    rw [List.getElem_cons_succ, ← this]
    congr 1
    show (k + 1) * 3 + j - 3 = k * 3 + j
    omega
theorem wpList_pushParams {ops : Array Oper} {rest : List Oper} {o : Oper} {a : Act} {Q : Exit → Act → World → Prop} (hgd : o.guard = none) (s x : Operand)
    (ho : o.op = .call { callee := .builtin .append, args := #[s, x], argTypes := #[76, 76] })
    (B : Nat) (w : World) (v : Value) (hs : a.eval s = v) (hown : OwnG paramS 107 B Nowhere w v []) (m : List ParamD) (ao : Option Addr) (c : Nat) (hx : a.eval x = .slice ao m.length c) (hN : Rows paramS Any w ao m)
    (h63 : m.length ≤ 1000) (hbase : B ≤ w.heap.size)
    (h : ∀ v' w', OwnG paramS 107 B Nowhere w' v' m → w.grownBy w' v.ownBlock → (v'.ownBlock = v.ownBlock ∨ v'.ownBlock = some w.heap.size) → wpList Tryz.prog ops Q rest (a.put o.dst v') w') : wpList Tryz.prog ops Q (o :: rest) a w := by
  obtain ⟨i0, hi, hz0, hz1, hz2⟩ := info_parts infoParam
  obtain ⟨xs, r1, r2⟩ := hown.row
  have hxs : xs = [] := List.eq_nil_of_length_eq_zero (by have := r1.1; simpa using this)
  subst hxs
  cases ao with
  | some ad =>
    refine wpList_append_own_at _ hgd s x 76 ho B 107 i0 (.agg #[.string ByteArray.empty, .bool false, .int .i64 0]) 3 32 Tryz.underlying76 hi hz0 hz1 hz2 rfl (by decide) v 0 [] hs r1 ad m.length c (m.flatMap paramCells) hx (flatP_len m) ?_ ?_ (by unfold maxLen; omega) (by omega) hbase (fun v' w' k1 k2 _ k4 => h v' w' (OwnG.of_row (xs := m.flatMap paramCells) (by have k5 := k1; simp only [Nat.zero_add, List.nil_append] at k5; exact k5) (fun i hi => ⟨paramCells m[i], rfl, fun j hj => flatP_at m i hi j hj⟩)) k2 k4)
    · intro j u hu
      by_cases hj : j < m.length * 3
      · have hk : j / 3 < m.length := by omega
        obtain ⟨b', o', cs, e, _, _, hc, hat⟩ := hN (j / 3) hk
        cases e
        obtain rfl : cs = paramCells m[j / 3] := hat
        have h2 := flatP_at m (j / 3) hk (j % 3) (Nat.mod_lt _ (by decide))
        rw [show j / 3 * 3 + j % 3 = j by omega, hu] at h2
        have h3 := hc (j % 3) (Nat.mod_lt _ (by decide))
        rw [show paramS.n = 3 from rfl, ← h2] at h3
        rw [show (⟨b', o', none⟩ : Addr).add j = ⟨b', o' + j, none⟩ by unfold Addr.add; split <;> simp_all, ← h3]
        congr 2
        omega
      · rw [List.getElem?_eq_none (by rw [flatP_len]; omega)] at hu
        cases hu
    · intro y hy
      obtain ⟨f, _, hf⟩ := List.mem_flatMap.1 hy
      simp only [paramCells, List.mem_cons, List.not_mem_nil, or_false] at hf
      rcases hf with rfl | rfl | rfl <;> rfl
  | none =>
    have hm : m = [] := by
      cases m with
      | nil => rfl
      | cons y m =>
        obtain ⟨b, o', cs, e, _⟩ := hN 0 (by simp)
        cases e
    subst hm
    obtain ⟨ba, cc, hv, hc, _, _⟩ := hown.rows (Q := Any) (fun _ _ _ => trivial) (fun _ _ => trivial)
    refine wpList_plain hgd fun _ hK => ?_
    have hr := run_append_nothing (P := Tryz.prog) w 76 76 o.type 107 i0 Tryz.underlying76 hi ba 0 cc hc (.slice none 0 c) (Src.ofNil _ Tryz.underlying76 c)
    unfold Oper.wp execOp
    simp only [ho, resolve, invoke, builtin, Sem.run_bind, Sem.run_pure, Result.andThen_ok, List.map_toArray, List.map_cons, List.map_nil, hs, hv, hx, List.length_nil, hr]
    exact hK _ _ (h _ w (by rw [show Value.slice ba 0 cc = v from hv.symm]; exact hown) ⟨rfl, rfl, rfl, Nat.le_refl _, fun _ _ _ => rfl⟩ (.inl (by rw [hv]; rfl)))

theorem box6o {w : World} {g : Nat} {t : TypeId} {c0 c1 c2 c3 c4 c5 : Value} (h : Box w g t #[c0, c1, c2, c3, c4, c5]) : w.cell? ⟨g, 0, none⟩ = some c0 ∧ w.cell? ⟨g, 1, none⟩ = some c1 ∧ w.cell? ⟨g, 2, none⟩ = some c2 ∧ w.cell? ⟨g, 3, none⟩ = some c3 ∧ w.cell? ⟨g, 4, none⟩ = some c4 ∧ w.cell? ⟨g, 5, none⟩ = some c5 := ⟨h.cell 0, h.cell 1, h.cell 2, h.cell 3, h.cell 4, h.cell 5⟩
set_option maxHeartbeats 4000000 in
theorem sOwnO (ob : ObjectD) (pa : Option Addr) (pc : Nat) (w : World) (hl : ob.fParams.length ≤ 1000) (hr : Rows paramS Any w pa ob.fParams) :
    Calls Tryz.prog 65 #[.agg #[.string ob.fName, .int .i64 ob.fKind, .int .i64 ob.fMark, .int .i64 ob.fType, .int .i64 ob.fValue, .slice pa ob.fParams.length pc]] w fun e w' => ∃ fa fc, e = .returned (.agg #[.string ob.fName, .int .i64 ob.fKind, .int .i64 ob.fMark, .int .i64 ob.fType, .int .i64 ob.fValue, .slice fa ob.fParams.length fc]) ∧ OwnG paramS 107 w.heap.size Nowhere w' (.slice fa ob.fParams.length fc) ob.fParams ∧ Below w.heap.size w w' := by
  have X0 := Lib.hid (((Box.new w 78 #[.string ob.fName, .int .i64 ob.fKind, .int .i64 ob.fMark, .int .i64 ob.fType, .int .i64 ob.fValue, .slice pa ob.fParams.length pc]).alloc (.cells #[.string ByteArray.empty, .int .i64 0, .int .i64 0, .int .i64 0, .int .i64 0, .slice none 0 0] 78)).alloc (.cells #[] 107))
  have Z0 := Lib.hid (show Box (((w.alloc (.cells #[.string ob.fName, .int .i64 ob.fKind, .int .i64 ob.fMark, .int .i64 ob.fType, .int .i64 ob.fValue, .slice pa ob.fParams.length pc] 78)).alloc (.cells #[.string ByteArray.empty, .int .i64 0, .int .i64 0, .int .i64 0, .int .i64 0, .slice none 0 0] 78)).alloc (.cells #[] 107)) (w.heap.size + 1) 78 #[.string ByteArray.empty, .int .i64 0, .int .i64 0, .int .i64 0, .int .i64 0, .slice none 0 0] from (Box.new' (g := w.heap.size + 1) (w.alloc (.cells #[.string ob.fName, .int .i64 ob.fKind, .int .i64 ob.fMark, .int .i64 ob.fType, .int .i64 ob.fValue, .slice pa ob.fParams.length pc] 78)) _ _ (by simp)).alloc _)
  have F0 := Lib.hid (show OwnG paramS 107 (w.heap.size + 2) Nowhere (((w.alloc (.cells #[.string ob.fName, .int .i64 ob.fKind, .int .i64 ob.fMark, .int .i64 ob.fType, .int .i64 ob.fValue, .slice pa ob.fParams.length pc] 78)).alloc (.cells #[.string ByteArray.empty, .int .i64 0, .int .i64 0, .int .i64 0, .int .i64 0, .slice none 0 0] 78)).alloc (.cells #[] 107)) (.slice (some ⟨w.heap.size + 2, 0, none⟩) 0 0) [] from .inr ⟨w.heap.size + 2, 0, #[], rfl, Nat.le_refl _, Box.new' _ _ _ (by simp), Nat.le_refl _, by decide, by simp, fun i hi _ => absurd hi (by simp)⟩)
  have B0 := Lib.hid (show Below w.heap.size w (((w.alloc (.cells #[.string ob.fName, .int .i64 ob.fKind, .int .i64 ob.fMark, .int .i64 ob.fType, .int .i64 ob.fValue, .slice pa ob.fParams.length pc] 78)).alloc (.cells #[.string ByteArray.empty, .int .i64 0, .int .i64 0, .int .i64 0, .int .i64 0, .slice none 0 0] 78)).alloc (.cells #[] 107)) from (((Below.refl w.heap.size w).alloc (Nat.le_refl _) _).alloc (by simp) _).alloc (by simp; omega) _)
  have R0 := Lib.hid (hr.below B0.out)
  have x5 : _ = some (Value.slice pa ob.fParams.length pc) := X0.out.cell 5
  have hs0 : w.heap.size + 2 ≤ (((w.alloc (.cells #[.string ob.fName, .int .i64 ob.fKind, .int .i64 ob.fMark, .int .i64 ob.fType, .int .i64 ob.fValue, .slice pa ob.fParams.length pc] 78)).alloc (.cells #[.string ByteArray.empty, .int .i64 0, .int .i64 0, .int .i64 0, .int .i64 0, .slice none 0 0] 78)).alloc (.cells #[] 107)).heap.size := by simp
  clear hr
  go_enter Tryz.func65, Tryz.ntmps65
  go_wp2_with (at_builtin; refine wpList_pushParams rfl (.tmp 3) (.tmp 5) rfl (w.heap.size + 2) _ _ rfl F0.out ob.fParams pa pc rfl R0.out hl hs0 ?_)
  intro v1 w1 hown1 hg1 _
  have B1 := Lib.hid (B0.out.grown hg1 B0.out.size (fun q hq => by rw [ownBlock_slice] at hq; injection hq with hq; omega))
  have hX1 : Box w1 w.heap.size 78 #[.string ob.fName, .int .i64 ob.fKind, .int .i64 ob.fMark, .int .i64 ob.fType, .int .i64 ob.fValue, .slice pa ob.fParams.length pc] := (hg1.block w.heap.size X0.out.lt (fun e => by rw [ownBlock_slice] at e; injection e with e; omega)).trans X0.out
  have hZ1 : Box w1 (w.heap.size + 1) 78 #[.string ByteArray.empty, .int .i64 0, .int .i64 0, .int .i64 0, .int .i64 0, .slice none 0 0] := (hg1.block (w.heap.size + 1) Z0.out.lt (fun e => by rw [ownBlock_slice] at e; injection e with e; omega)).trans Z0.out
  obtain ⟨fa, fc, rfl, hfle, _, _⟩ := OwnG.rows (Q := Any) hown1 (fun _ _ _ => trivial) (fun _ _ => trivial)
  have X1 := Lib.hid hX1
  have Z1 := Lib.hid hZ1
  have F1 := Lib.hid hown1
  obtain ⟨c0, c1, c2, c3, c4, c5⟩ := box6o hX1
  obtain ⟨z0, z1, z2, z3, z4, z5⟩ := box6o hZ1
  have f5 := hX1.free
  have fz := hZ1.free
  clear X0 Z0 F0 R0 B0 x5 hg1 hown1 hX1 hZ1
  go_wp2_with fail
  refine bodyPost_ret (results_one rfl Tryz.underlying78 rfl _ _ (w.heap.size + 1) #[.string ob.fName, .int .i64 ob.fKind, .int .i64 ob.fMark, .int .i64 ob.fType, .int .i64 ob.fValue, .slice fa ob.fParams.length fc] rfl 78 ?qbox 6 sizeObject rfl) rfl ?_
  case qbox => exact ((((((Z1.out.only ((Only.refl w.heap.size w1).set 5 _) (by omega)).set 0 _).set 1 _).set 2 _).set 3 _).set 4 _).set 5 _
  have hab : Above (w.heap.size + 2) w1 (((((((w1.setCell ⟨w.heap.size, 5, none⟩ (.slice fa ob.fParams.length fc)).setCell ⟨w.heap.size + 1, 0, none⟩ (.string ob.fName)).setCell ⟨w.heap.size + 1, 1, none⟩ (.int .i64 ob.fKind)).setCell ⟨w.heap.size + 1, 2, none⟩ (.int .i64 ob.fMark)).setCell ⟨w.heap.size + 1, 3, none⟩ (.int .i64 ob.fType)).setCell ⟨w.heap.size + 1, 4, none⟩ (.int .i64 ob.fValue)).setCell ⟨w.heap.size + 1, 5, none⟩ (.slice fa ob.fParams.length fc)) := ((((((((Above.refl _ _).set (by omega) _ _).set (by omega) _ _).set (by omega) _ _).set (by omega) _ _).set (by omega) _ _).set (by omega) _ _).set (by omega) _ _)
  refine ⟨fa, fc, rfl, (F1.out.keep (fun q hq hl => hab.keep q (by
    rcases hq with hq | hq
    · exact hq.elim
    · exact (F1.out.lt q hq).1) hl) hab.size).lower (by omega), ?_⟩
  exact ((((((B1.out.setCell (Nat.le_refl _) _).setCell (p := ⟨w.heap.size + 1, 0, none⟩) (by simp) _).setCell (p := ⟨w.heap.size + 1, 1, none⟩) (by simp) _).setCell (p := ⟨w.heap.size + 1, 2, none⟩) (by simp) _).setCell (p := ⟨w.heap.size + 1, 3, none⟩) (by simp) _).setCell (p := ⟨w.heap.size + 1, 4, none⟩) (by simp) _).setCell (p := ⟨w.heap.size + 1, 5, none⟩) (by simp) _
end Go.Proofs.YtaccifjkeblhpaaGreat

namespace Go.Proofs.YtaccifjkeblhpaaGreat
open Go.ChangeShapes Go.WideShapes Go.ChangeAt Go.RowKit
set_option maxRecDepth 100000

theorem step_pushO {Pr : Program} {T : Type} {ops : Array Oper} {o : Oper} {a : Act} {K : Act → World → Prop} {Q : Exit → Act → World → Prop} {E : Prop} (hgd : o.guard = none) (s x : Operand) (t : TypeId)
    (ho : o.op = .call { callee := .builtin .append, args := #[s, x], argTypes := #[t, t] }) (S : Shape T) (e : TypeId) (i : TypeInfo) (z : Value) (bytes : Nat) (ht : Pr.underlying t = some (.slice e)) (hi : Pr.info? e = some i) (hz : i.zero = some z) (hsize : i.size = S.n) (hby : i.bytes = bytes) (hzs : z.cells.size = S.n) (hsz : 0 < S.n) (hb1 : bytes ≤ 1000)
    (B : Nat) (P : Nat → Prop) (w : World) (v : Value) (l : List T) (hs : a.eval s = v) (hown : OwnG S e B P w v l) (u : T) (cs : List Value) (g c : Nat) (hx : a.eval x = .slice (some ⟨g, 0, none⟩) 1 c) (hg : ∀ j, j < S.n → w.cell? ⟨g, j, none⟩ = cs[j]?) (hu : S.At (fun q => P q ∧ v.ownBlock ≠ some q) w cs u) (h1 : ∀ y ∈ cs, y.oneCell' = true)
    (h63 : l.length ≤ 1048577) (hbase : B ≤ w.heap.size)
    (h : ∀ va vn vc w', OwnG S e B P w' (.slice va vn vc) (l ++ [u]) → w.grownBy w' v.ownBlock → ((Value.slice va vn vc).ownBlock = v.ownBlock ∨ (Value.slice va vn vc).ownBlock = some w.heap.size) → K (a.put o.dst (.slice va vn vc)) w') : if Region.wanted o (yielded ops a.tmps) = true then Oper.wp Pr o a w K Q else E := by
  obtain ⟨xs, r1, r2⟩ := hown.row
  have hl := S.len hu
  refine step_append_lies w hgd s x t ho B e i z S.n bytes ht hi hz hsize hby hzs hsz v l.length xs hs r1 ⟨g, 0, none⟩ 1 c cs hx (by rw [hl, Nat.one_mul]) (fun j y hj => ?_) h1 (by omega) (by unfold maxLen; omega) ?_ hbase _ rfl (fun g' cap w' k1 k2 k3 _ => ?_)
  · have e : (⟨g, 0, none⟩ : Addr).add j = ⟨g, j, none⟩ := by unfold Addr.add; split <;> simp_all
    have hj2 : j < cs.length := by
      by_cases h : j < cs.length
      · exact h
      · rw [List.getElem?_eq_none (by omega)] at hj; cases hj
    rw [e, hg j (by omega)]
    exact hj
  · exact Nat.le_trans (Nat.mul_le_mul (show l.length + 1 ≤ 1048578 by omega) hb1) (by decide)
  · have hv : (Value.slice (some ⟨g', 0, none⟩) (l.length + 1) cap).ownBlock = v.ownBlock ∨ (Value.slice (some ⟨g', 0, none⟩) (l.length + 1) cap).ownBlock = some w.heap.size := by
      rw [ownBlock_slice]
      rcases k3 with e | e
      · exact .inl e.symm
      · exact .inr (by rw [e])
    exact h _ _ _ w' (OwnG.pushed r1 r2 hu k1 k2 hv) k2 hv

/-- An object whose params lie in a block of its own, between two bounds. -/
structure OB where
  ob : ObjectD
  lo : Nat
  hi : Nat
def obAt (Q : Nat → Prop) (w : World) (cs : List Value) (t : OB) : Prop := ∃ a5 c5, cs = [.string t.ob.fName, .int .i64 t.ob.fKind, .int .i64 t.ob.fMark, .int .i64 t.ob.fType, .int .i64 t.ob.fValue, .slice a5 t.ob.fParams.length c5] ∧ OwnG paramS 107 t.lo Nowhere w (.slice a5 t.ob.fParams.length c5) t.ob.fParams ∧ ∀ q, (Value.slice a5 t.ob.fParams.length c5).ownBlock = some q → Q q ∧ q < t.hi
def obS : Shape OB where
  n := 6
  At := obAt
  len h := by obtain ⟨a5, c5, rfl, _⟩ := h; rfl
  keep h hb hs := by
    obtain ⟨a5, c5, rfl, h2, h3⟩ := h
    exact ⟨a5, c5, rfl, h2.keep (fun q hq hl => hb q (by
      rcases hq with hq | hq
      · exact hq.elim
      · exact (h3 q hq).1) hl) hs, h3⟩
  mono h hq := by
    obtain ⟨a5, c5, rfl, h2, h3⟩ := h
    exact ⟨a5, c5, rfl, h2, fun q e => ⟨hq q (h3 q e).1 (h2.lt q e).2, (h3 q e).2⟩⟩
section
variable {T : Type} {S : Shape T} {e : TypeId} {B : Nat} {P : Nat → Prop} {w w' : World} {l : List T}
/-- One cell of one of them set anew. -/
theorem OwnG.put {b n c k j : Nat} {u : Value} {t : T} (h : OwnG S e B P w (.slice (some ⟨b, 0, none⟩) n c) l) (hk : k < l.length) (hj : j < S.n) (hu : ∀ cs, S.At (fun q => P q ∧ q ≠ b) w cs l[k] → S.At (fun q => P q ∧ q ≠ b) w (cs.set j u) t) :
    OwnG S e B P (w.setCell ⟨b, k * S.n + j, none⟩ u) (.slice (some ⟨b, 0, none⟩) n c) (l.set k t) := by
  rcases h with ⟨h, _⟩ | ⟨b', cap, cur, hv, h2, h3, h4, h5, h6, h7⟩
  · cases h
  injection hv with hv hn hc
  injection hv with hv
  injection hv with hv
  subst hv hn hc
  have ho := (Only.refl b w).set (k * S.n + j) u
  have hkn := Nat.mul_le_mul_right S.n (show k + 1 ≤ c by omega)
  rw [Nat.add_mul] at hkn
  have kp : ∀ {c : List Value} {t : T}, S.At (fun q => P q ∧ q ≠ b) w c t → S.At (fun q => P q ∧ q ≠ b) (w.setCell ⟨b, k * S.n + j, none⟩ u) c t := fun hc =>
    S.keep hc (fun q hq hl => ho.block q hl (fun e => by injection e with e; exact hq.2 e)) ho.size
  refine .inr ⟨b, c, cur.setIfInBounds (k * S.n + j) u, by rw [List.length_set], h2, h3.set _ u, by rw [List.length_set]; exact h4, h5, by rw [Array.size_setIfInBounds]; exact h6, fun i hi _ => ?_⟩
  rw [List.length_set] at hi
  obtain ⟨c0, c1, c2⟩ := h7 i hi hi
  by_cases hik : i = k
  · subst hik
    refine ⟨c0.set j u, by rw [List.getElem_set_self]; exact kp (hu c0 c1), fun x hx => ?_⟩
    have hl := S.len c1
    have := c2 x hx
    rw [Nat.zero_add] at this ⊢
    by_cases hxj : x = j
    · subst hxj
      rw [Array.getElem?_setIfInBounds, if_pos rfl, if_pos (by omega), List.getElem?_set_self (by omega)]
    · rw [Array.getElem?_setIfInBounds, if_neg (by omega), this, List.getElem?_set_ne (Ne.symm hxj)]
  · refine ⟨c0, by rw [List.getElem_set_ne (by omega)]; exact kp c1, fun x hx => ?_⟩
    have := c2 x hx
    rw [Nat.zero_add] at this ⊢
    have hne : k * S.n + j ≠ i * S.n + x := by
      rcases Nat.lt_or_ge i k with h | h
      · have := Nat.mul_le_mul_right S.n (show i + 1 ≤ k by omega)
        rw [Nat.add_mul] at this
        omega
      · have := Nat.mul_le_mul_right S.n (show k + 1 ≤ i by omega)
        rw [Nat.add_mul] at this
        omega
    rw [Array.getElem?_setIfInBounds, if_neg hne, this]
end

/-! The first k told anew. -/
def doneK {T : Type} (f : T → T) (k : Nat) (l : List T) : List T := (l.take k).map f ++ l.drop k
section
variable {T : Type} {f : T → T} {k : Nat} {l : List T}
theorem doneK_len (h : k ≤ l.length) : (doneK f k l).length = l.length := by simp [doneK]; omega
theorem doneK_zero : doneK f 0 l = l := by simp [doneK]
theorem doneK_all : doneK f l.length l = l.map f := by simp [doneK]
theorem doneK_at (h : k < l.length) : (doneK f k l)[k]'(by rw [doneK_len (by omega)]; exact h) = l[k] := by
  unfold doneK
  rw [List.getElem_append_right (by simp; omega)]
  simp [Nat.min_eq_left (Nat.le_of_lt h)]
theorem doneK_set (h : k < l.length) : (doneK f k l).set k (f l[k]) = doneK f (k + 1) l := by
  unfold doneK
  rw [List.set_append_right _ _ (by simp; omega), List.take_succ_eq_append_getElem h, List.map_append]
  simp [Nat.min_eq_left (Nat.le_of_lt h)]
  rw [List.drop_eq_getElem_cons h]
  rfl
end

/-- The model's l4Export on its way through the objects. -/
structure Ex (l : List TypeD) (a : Option Addr) (c g bt B : Nat) (w0 : World) (nm : ByteArray) (w : World) (ov : Value) (o : List Int) (vo : Value) (L : List OB) : Prop where
  v : VSt l a c g bt B w ov o
  r0 : Rows typeS (fun b => b < w0.heap.size) w0 a l
  bl : Below w0.heap.size w0 w
  ob : Box w (w0.heap.size + 1) 33 #[.string ByteArray.empty, .slice none 0 0, .slice none 0 0, .slice none 0 0, .slice none 0 0]
  eb : Box w (w0.heap.size + 2) 33 #[.string nm, .slice none 0 0, .slice none 0 0, vo, .slice none 0 0]
  own : OwnG obS 78 B (fun q => B ≤ q ∧ ov.ownBlock ≠ some q) w vo L
  ne : ∀ q, vo.ownBlock = some q → ov.ownBlock ≠ some q
  g0 : w0.heap.size + 3 ≤ g
  b0 : w0.heap.size + 3 ≤ bt
  ch : L.Pairwise (fun x y => x.hi ≤ y.lo)
  hi : ∀ x ∈ L, x.hi ≤ w.heap.size
section
variable {l : List TypeD} {a : Option Addr} {c g bt B : Nat} {w0 w w' : World} {nm : ByteArray} {ov ov' vo vo' : Value} {o o' : List Int} {L L' : List OB}
theorem Ex.visit (h : Ex l a c g bt B w0 nm w ov o vo L) (hv : VSt l a c g bt B w' ov' o') (hp : OnlyP g bt ov w w') (hq : ∀ k, ov'.ownBlock = some k → ov.ownBlock = some k ∨ w.heap.size ≤ k) : Ex l a c g bt B w0 nm w' ov' o' vo L := by
  have hg := h.g0
  have hb := h.b0
  have hf := h.v.far
  have hgB := h.v.gB
  have htB := h.v.tB
  refine ⟨hv, h.r0, h.bl.trans (hp.below (by omega) (by omega) (fun k hk => by have := hf k hk; omega) h.bl.size), hp.box h.ob (by omega) (by omega) (fun e => by have := hf _ e; omega), hp.box h.eb (by omega) (by omega) (fun e => by have := hf _ e; omega), ?_, fun q e => ?_, hg, hb, h.ch, fun x hx => Nat.le_trans (h.hi x hx) hp.size⟩
  · refine OwnG.mono (P := fun q => (B ≤ q ∧ ov.ownBlock ≠ some q) ∧ q < w.heap.size) ((h.own.mono (fun q hq hl => ⟨hq, hl⟩)).keep (fun q hq hl => ?_) hp.size) (fun q hq' _ => ⟨hq'.1.1, fun e => ?_⟩)
    · have h1 : B ≤ q ∧ ov.ownBlock ≠ some q := by
        rcases hq with hq | hq
        · exact hq.1
        · exact ⟨(h.own.lt q hq).1, h.ne q hq⟩
      exact hp.block hl (by omega) (by omega) h1.2
    · rcases hq q e with e | e
      · exact hq'.1.2 e
      · omega
  · have h1 := h.ne q e
    have h2 := (h.own.lt q e).2
    intro e'
    rcases hq q e' with e' | e'
    · exact h1 e'
    · omega
theorem Ex.below (h : Ex l a c g bt B w0 nm w ov o vo L) (hb : Below w.heap.size w w') : Ex l a c g bt B w0 nm w' ov o vo L :=
  ⟨h.v.below hb, h.r0, h.bl.trans (hb.mono h.bl.size), h.ob.below hb h.ob.lt, h.eb.below hb h.eb.lt, h.own.below hb, h.ne, h.g0, h.b0, h.ch, fun x hx => Nat.le_trans (h.hi x hx) hb.size⟩
theorem Ex.alloc (h : Ex l a c g bt B w0 nm w ov o vo L) (ob : Obj) : Ex l a c g bt B w0 nm (w.alloc ob) ov o vo L := h.below ((Below.refl _ _).alloc (Nat.le_refl _) ob)
/-- Where the objects told anew turn. -/
theorem Ex.turn (h : Ex l a c g bt B w0 nm w ov o vo L) {q : Nat} (hp : OnlyP (w0.heap.size + 2) q vo w w') (hq : q = w0.heap.size + 2 ∨ (B ≤ q ∧ ov.ownBlock ≠ some q)) (heb : Box w' (w0.heap.size + 2) 33 #[.string nm, .slice none 0 0, .slice none 0 0, vo', .slice none 0 0])
    (hown : OwnG obS 78 B (fun q => B ≤ q ∧ ov.ownBlock ≠ some q) w' vo' L') (hne : ∀ q, vo'.ownBlock = some q → ov.ownBlock ≠ some q) (hch : L'.Pairwise (fun x y => x.hi ≤ y.lo)) (hhi : ∀ x ∈ L', x.hi ≤ w'.heap.size) : Ex l a c g bt B w0 nm w' ov o vo' L' := by
  have hg := h.g0
  have hb := h.b0
  have hf := h.v.far
  have hgB := h.v.gB
  have htB := h.v.tB
  have hvo := h.own.lt
  have hbl : Below w0.heap.size w0 w' := h.bl.trans (hp.below (by omega) (by rcases hq with hq | hq <;> omega) (fun k hk => by have := (hvo k hk).1; omega) h.bl.size)
  have kp : ∀ k, k < w.heap.size → k < B → k ≠ w0.heap.size + 2 → w'.heap[k]? = w.heap[k]? := fun k h1 h2 h3 => hp.block h1 h3 (by rcases hq with hq | hq <;> omega) (fun e => by have := (hvo k e).1; omega)
  refine ⟨⟨(kp g h.v.box.lt (by omega) (by omega)).trans h.v.box, (kp bt h.v.to.lt (by omega) (by omega)).trans h.v.to, ⟨h.v.own.1, h.v.own.2.imp id (fun ⟨k, cap, cur, h1, h2, h3, h4⟩ => ⟨k, cap, cur, h1, h2, (hp.block (Array.getElem?_eq_some_iff.1 h3).1 (by omega) ?_ ?_).trans h3, h4⟩)⟩, h.v.met, hgB, htB, h.v.ne, (h.r0.keep (fun b hb _ => hbl.block b hb) hbl.size).mono (fun b hb _ => ⟨by omega, by omega, by omega⟩), Nat.le_trans h.v.hB hp.size⟩, h.r0, hbl, (kp _ h.ob.lt (by omega) (by omega)).trans h.ob, heb, hown, hne, hg, hb, hch, hhi⟩
  · rcases hq with hq | hq
    · omega
    · intro e
      subst e
      exact hq.2 (by rw [h1]; exact ownBlock_slice _ _ _)
  · intro e
    exact h.ne k e (by rw [h1]; exact ownBlock_slice _ _ _)
theorem Ex.push (h : Ex l a c g bt B w0 nm w ov o vo L) {x : OB} (hown : OwnG obS 78 B (fun q => B ≤ q ∧ ov.ownBlock ≠ some q) w' vo' (L ++ [x])) (hg : w.grownBy w' vo.ownBlock) (hv : vo'.ownBlock = vo.ownBlock ∨ vo'.ownBlock = some w.heap.size) (hlo : ∀ y ∈ L, y.hi ≤ x.lo) (hhi : x.hi ≤ w.heap.size) : Ex l a c g bt B w0 nm (w'.setCell ⟨w0.heap.size + 2, 3, none⟩ vo') ov o vo' (L ++ [x]) := by
  have hgB := h.v.gB
  have hg0 := h.g0
  have hon : Only (w0.heap.size + 2) w' (w'.setCell ⟨w0.heap.size + 2, 3, none⟩ vo') := (Only.refl _ _).set 3 _
  have hp : OnlyP (w0.heap.size + 2) (w0.heap.size + 2) vo w (w'.setCell ⟨w0.heap.size + 2, 3, none⟩ vo') := (OnlyP.ofGrown hg).set 3 _
  refine h.turn hp (.inl rfl) ?_ (hown.keep (fun q hq hl => hon.block q hl (fun e => ?_)) hon.size) (fun q hq => ?_) ?_ (fun y hy => ?_)
  · have h1 : Box w' (w0.heap.size + 2) 33 _ := (hg.block _ h.eb.lt (fun e => by have := (h.own.lt _ e.symm).1; omega)).trans h.eb
    exact h1.set 3 vo'
  · injection e with e
    rcases hq with hq | hq
    · omega
    · have := (hown.lt q hq).1; omega
  · rcases hv with hv | hv
    · exact h.ne q (hv ▸ hq)
    · intro e
      have := (World.ownsRow.lt h.v.own q e).2
      rw [hv] at hq
      injection hq with hq
      omega
  · rw [List.pairwise_append]
    exact ⟨h.ch, by simp, fun y hy z hz => by rw [List.mem_singleton.1 hz]; exact hlo y hy⟩
  · rcases List.mem_append.1 hy with hy | hy
    · exact Nat.le_trans (h.hi y hy) hp.size
    · rw [List.mem_singleton.1 hy]; exact Nat.le_trans hhi hp.size
end
end Go.Proofs.YtaccifjkeblhpaaGreat

namespace Go.Proofs.YtaccifjkeblhpaaGreat
open Go.ChangeShapes Go.WideShapes Go.ChangeAt Go.RowKit
set_option maxRecDepth 100000

theorem OwnG.elem {T : Type} {S : Shape T} {e : TypeId} {B : Nat} {P : Nat → Prop} {w : World} {v : Value} {l : List T} {k : Nat} (h : OwnG S e B P w v l) (hk : k < l.length) : ∃ b c cs, v = .slice (some ⟨b, 0, none⟩) l.length c ∧ B ≤ b ∧ b < w.heap.size ∧ S.At (fun q => P q ∧ q ≠ b) w cs l[k] ∧ (∀ j, j < S.n → w.cell? ⟨b, k * S.n + j, none⟩ = cs[j]?) ∧ ∀ i, w.frozen? ⟨b, i, none⟩ = false := by
  rcases h with ⟨_, rfl⟩ | ⟨b, cap, cur, rfl, h2, h3, h4, h5, h6, h7⟩
  · exact absurd hk (by simp)
  · obtain ⟨cs, c1, c2⟩ := h7 k hk hk
    exact ⟨b, cap, cs, rfl, h2, h3.lt, c1, fun j hj => by rw [h3.cell, ← c2 j hj, Nat.zero_add], fun i => h3.free i⟩
/-- Bounds stay where an element is set anew within its own. -/
theorem bounds_set {L : List OB} {i : Nat} {x : OB} (hi : i < L.length) (h1 : x.lo = L[i].lo) (h2 : x.hi = L[i].hi) (hc : L.Pairwise (fun x y => x.hi ≤ y.lo)) : (L.set i x).Pairwise (fun x y => x.hi ≤ y.lo) := by
  have h : ∀ M : List OB, M.Pairwise (fun x y => x.hi ≤ y.lo) ↔ (M.map (fun x => (x.lo, x.hi))).Pairwise (fun x y => x.2 ≤ y.1) := fun M => by rw [List.pairwise_map]
  rw [h] at hc ⊢
  have e : (L.set i x).map (fun x => (x.lo, x.hi)) = L.map (fun x => (x.lo, x.hi)) := by
    rw [List.map_set, h1, h2]
    apply List.ext_getElem
    · simp
    · intro j h1 h2
      by_cases e : j = i
      · subst e; simp
      · rw [List.getElem_set_ne (Ne.symm e)]
  rw [e]
  exact hc
section
variable {l : List TypeD} {a : Option Addr} {c g bt B : Nat} {w0 w : World} {nm : ByteArray} {ov vo : Value} {o : List Int} {L : List OB}
theorem Ex.mem_set {i : Nat} {x : OB} (h : Ex l a c g bt B w0 nm w ov o vo L) (hi : i < L.length) (h2 : x.hi = L[i].hi) {n : Nat} (hn : w.heap.size ≤ n) : ∀ y ∈ L.set i x, y.hi ≤ n := fun y hy => by
  rcases List.mem_or_eq_of_mem_set hy with hy | rfl
  · exact Nat.le_trans (h.hi y hy) hn
  · rw [h2]; exact Nat.le_trans (h.hi _ (List.getElem_mem hi)) hn
theorem Ex.setType {i rb n rc : Nat} (h : Ex l a c g bt B w0 nm w ov o (.slice (some ⟨rb, 0, none⟩) n rc) L) (hi : i < L.length) (z : Int) : Ex l a c g bt B w0 nm (w.setCell ⟨rb, i * 6 + 3, none⟩ (.int .i64 z)) ov o (.slice (some ⟨rb, 0, none⟩) n rc) (L.set i ⟨{ L[i].ob with fType := z }, L[i].lo, L[i].hi⟩) := by
  have hrb := h.own.lt rb (ownBlock_slice _ _ _)
  have hg := h.g0
  have hgB := h.v.gB
  have hon : Only rb w (w.setCell ⟨rb, i * 6 + 3, none⟩ (.int .i64 z)) := (Only.refl _ _).set _ _
  refine h.turn (q := w0.heap.size + 2) ⟨hon.os, hon.tape, hon.output, hon.size, fun k hk _ _ h4 => hon.block k hk (fun e => h4 (by rw [ownBlock_slice, e]))⟩ (.inl rfl) (h.eb.only hon (by omega)) ?_ h.ne (by exact bounds_set hi (by rfl) (by rfl) h.ch) (by exact h.mem_set hi (by rfl) hon.size)
  exact h.own.put (S := obS) hi (j := 3) (by decide) (fun cs hc => by
    obtain ⟨a5, c5, rfl, h2, h3⟩ := hc
    exact ⟨a5, c5, rfl, h2, h3⟩)
theorem Ex.setParam {i rb n rc q pb pn pc : Nat} (h : Ex l a c g bt B w0 nm w ov o (.slice (some ⟨rb, 0, none⟩) n rc) L) (hi : i < L.length) (hc : w.cell? ⟨rb, i * 6 + 5, none⟩ = some (.slice (some ⟨pb, 0, none⟩) pn pc)) (hq : q < L[i].ob.fParams.length) (z : Int) : Ex l a c g bt B w0 nm (w.setCell ⟨pb, q * 3 + 2, none⟩ (.int .i64 z)) ov o (.slice (some ⟨rb, 0, none⟩) n rc) (L.set i ⟨{ L[i].ob with fParams := L[i].ob.fParams.set q { L[i].ob.fParams[q] with fType := z } }, L[i].lo, L[i].hi⟩) := by
  have hgB := h.v.gB
  have hg := h.g0
  have hrb := h.own.lt rb (ownBlock_slice _ _ _)
  have hown := h.own
  have hch := h.ch
  rcases hown with ⟨hx, _⟩ | ⟨b', cap, cur, hv, h2, h3, h4, h5, h6, h7⟩
  · cases hx
  injection hv with hv hn hcc
  injection hv with hv
  injection hv with hv
  subst hv hn hcc
  have hS : obS.n = 6 := rfl
  obtain ⟨cs, ⟨a5, c5, rfl, p1, p2⟩, k2⟩ := h7 i hi hi
  have hc5 := k2 5 (by decide)
  rw [h3.cell] at hc
  rw [hS, Nat.zero_add, hc] at hc5
  simp at hc5
  obtain ⟨e1, e2, e3⟩ := hc5
  subst e1 e2 e3
  have hpb := p2 pb (ownBlock_slice _ _ _)
  have hpl := p1.lt pb (ownBlock_slice _ _ _)
  have hon : Only pb w (w.setCell ⟨pb, q * 3 + 2, none⟩ (.int .i64 z)) := (Only.refl _ _).set _ _
  have hput := p1.put (S := paramS) hq (j := 2) (u := .int .i64 z) (t := { L[i].ob.fParams[q] with fType := z }) (by decide) (fun cs hc => by
    obtain rfl : cs = [.string L[i].ob.fParams[q].fName, .bool L[i].ob.fParams[q].fByVar, .int .i64 L[i].ob.fParams[q].fType] := hc
    rfl)
  refine h.turn (q := pb) ⟨hon.os, hon.tape, hon.output, hon.size, fun k hk _ h3 _ => hon.block k hk (fun e => by injection e with e; exact h3 e)⟩ (.inr hpb.1.1) (h.eb.only hon (by have := hpb.1.1.1; omega)) ?_ h.ne (by exact bounds_set hi (by rfl) (by rfl) h.ch) (by exact h.mem_set hi (by rfl) hon.size)
  refine .inr ⟨rb, rc, cur, by rw [List.length_set], h2, h3.only hon (fun e => hpb.1.2 e.symm), by rw [List.length_set]; exact h4, h5, h6, fun j hj _ => ?_⟩
  rw [List.length_set] at hj
  by_cases hji : j = i
  · subst hji
    refine ⟨_, ⟨some ⟨pb, 0, none⟩, pc, ?_, ?_, ?_⟩, k2⟩
    · rw [List.getElem_set_self]
      simp
    · rw [List.getElem_set_self]
      simp only [List.length_set]
      exact hput
    · rw [List.getElem_set_self]
      simpa using p2
  · obtain ⟨cj, ⟨aj, nj, rfl, r1, r2⟩, kj⟩ := h7 j hj hj
    have hd : ∀ x, (Value.slice aj L[j].ob.fParams.length nj).ownBlock = some x → x ≠ pb := fun x hx e => by
      subst e
      have s1 := r1.lt x hx
      have s2 := (r2 x hx).2
      have s3 := hpb.2
      have s4 := hpl.1
      rw [List.pairwise_iff_getElem] at hch
      rcases Nat.lt_or_gt_of_ne hji with hlt | hlt
      · have := hch j i hj hi hlt; omega
      · have := hch i j hi hj hlt; omega
    refine ⟨_, ⟨aj, nj, ?_, ?_, ?_⟩, kj⟩
    · rw [List.getElem_set_ne (Ne.symm hji)]
    · rw [List.getElem_set_ne (Ne.symm hji)]
      exact r1.keep (fun x hx hl => hon.block x hl (fun e => by
        injection e with e
        rcases hx with hx | hx
        · exact hx.elim
        · exact hd x hx e)) hon.size
    · rw [List.getElem_set_ne (Ne.symm hji)]
      exact r2
end
end Go.Proofs.YtaccifjkeblhpaaGreat
