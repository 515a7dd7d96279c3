
/-
  What is proved: plain functions of a layout: where fields lie, one behind the other, where each may; rows of places that the call owns. No condition beside what each theorem states.
-/
import Derived.Test.YtlfigpdjhljdnaaStPlace
import Derived.Test.YtlfigpdjhljdnaaLineUp
import Derived.Test.YtlfigpdjhljdnaaSizeOf
import Derived.Test.YtlfigpdjhljdnaaAllG
namespace Go.Proofs.Ytlfigpdjhljdnaa
open Go.ChangeShapes Go.WideShapes Go.ChangeAt Go.RowKit
set_option maxRecDepth 100000

def byZ (l : List TypeD) (f : FieldD) : Int := max 1 (min 8 (sizeS l f.fType))
def atZ (l : List TypeD) (e : Int) (f : FieldD) : Int := lineZ e (byZ l f)
def okL (l : List TypeD) (e : Int) (f : FieldD) : Prop := atZ l e f ≤ 1000000000 ∧ sizeS l f.fType ≤ 1000000000
instance (l : List TypeD) (e : Int) (f : FieldD) : Decidable (okL l e f) := by unfold okL; infer_instance
def nextE (l : List TypeD) (e : Int) (f : FieldD) : Int := if okL l e f then atZ l e f + sizeS l f.fType else e
def oneP (l : List TypeD) (e : Int) (f : FieldD) : List PlaceD := if okL l e f then [⟨f.fName, atZ l e f, sizeS l f.fType⟩] else []
def endL (l : List TypeD) : Int → List FieldD → Int
  | e, [] => e
  | e, f :: fs => endL l (nextE l e f) fs
def gatL (l : List TypeD) : Int → List FieldD → List PlaceD
  | _, [] => []
  | e, f :: fs => oneP l e f ++ gatL l (nextE l e f) fs
def allL (l : List TypeD) : Int → List FieldD → Prop
  | _, [] => True
  | e, f :: fs => okL l e f ∧ allL l (nextE l e f) fs
theorem endL_app (l : List TypeD) (f : FieldD) : ∀ (fs : List FieldD) (e : Int), endL l e (fs ++ [f]) = nextE l (endL l e fs) f
  | [], _ => rfl
  | g :: fs, e => endL_app l f fs (nextE l e g)
theorem gatL_app (l : List TypeD) (f : FieldD) : ∀ (fs : List FieldD) (e : Int), gatL l e (fs ++ [f]) = gatL l e fs ++ oneP l (endL l e fs) f
  | [], e => by show oneP l e f ++ [] = [] ++ oneP l e f; simp
  | g :: fs, e => by show oneP l e g ++ gatL l (nextE l e g) (fs ++ [f]) = (oneP l e g ++ gatL l (nextE l e g) fs) ++ _; rw [gatL_app l f fs, List.append_assoc]; rfl
theorem allL_app (l : List TypeD) (f : FieldD) : ∀ (fs : List FieldD) (e : Int), allL l e (fs ++ [f]) ↔ allL l e fs ∧ okL l (endL l e fs) f
  | [], e => by show (okL l e f ∧ True) ↔ (True ∧ okL l e f); simp
  | g :: fs, e => by
    show (okL l e g ∧ allL l (nextE l e g) (fs ++ [f])) ↔ ((okL l e g ∧ allL l (nextE l e g) fs) ∧ _)
    rw [allL_app l f fs, and_assoc]
    rfl
theorem allL_pre (l : List TypeD) : ∀ (fs gs : List FieldD) (e : Int), allL l e (fs ++ gs) → allL l e fs
  | [], _, _, _ => trivial
  | _ :: fs, gs, _, h => ⟨h.1, allL_pre l fs gs _ h.2⟩
theorem gatL_len (l : List TypeD) : ∀ (fs : List FieldD) (e : Int), (gatL l e fs).length ≤ fs.length ∧ (allL l e fs ↔ ¬ (gatL l e fs).length < fs.length)
  | [], _ => ⟨Nat.le_refl _, by simp [allL, gatL]⟩
  | f :: fs, e => by
    obtain ⟨h1, h2⟩ := gatL_len l fs (nextE l e f)
    unfold gatL allL oneP
    by_cases h : okL l e f
    · rw [if_pos h]
      simp only [List.length_append, List.length_cons, List.length_nil]
      exact ⟨by omega, by rw [h2]; exact ⟨fun g => by have := g.2; omega, fun g => ⟨h, by omega⟩⟩⟩
    · rw [if_neg h]
      simp only [List.length_append, List.length_cons, List.length_nil]
      exact ⟨by omega, ⟨fun g => absurd g.1 h, fun g => by omega⟩⟩
theorem by_bd (l : List TypeD) (f : FieldD) : 1 ≤ byZ l f ∧ byZ l f ≤ 8 := by unfold byZ; omega
theorem nextE_bd {l : List TypeD} (hne : near l) {e : Int} {f : FieldD} (h0 : 0 ≤ e) (h1 : e ≤ 2000000000) : 0 ≤ nextE l e f ∧ nextE l e f ≤ 2000000000 := by
  unfold nextE
  split
  · rename_i h
    have hs := sizeS_bounds hne f.fType
    have hb := by_bd l f
    have := line_bd h0 hb.1
    unfold okL at h
    unfold atZ at *
    omega
  · omega
theorem endL_bd {l : List TypeD} (hne : near l) : ∀ (fs : List FieldD) (e : Int), 0 ≤ e → e ≤ 2000000000 → 0 ≤ endL l e fs ∧ endL l e fs ≤ 2000000000
  | [], _, h0, h1 => ⟨h0, h1⟩
  | f :: fs, e, h0, h1 => by
    have h := nextE_bd hne (f := f) h0 h1
    exact endL_bd hne fs _ h.1 h.2
theorem at_far {l : List TypeD} {e : Int} {f : FieldD} (h0 : 0 ≤ e) (h : 1000000000 < e) : ¬ okL l e f := by
  have hb := by_bd l f
  have := line_bd h0 hb.1
  unfold okL atZ
  omega

def layP (l : List TypeD) (x : Int) : Prop := recP l x ∧ allL l 0 (downZ l x)
open Classical in
noncomputable def layB (l : List TypeD) (x : Int) : Bool := decide (layP l x)
open Classical in
noncomputable def layA (l : List TypeD) (x : Int) : List PlaceD := if layP l x then gatL l 0 (downZ l x) else []
theorem lay_in {l : List TypeD} {x : Int} (h : layP l x) : layB l x = true ∧ layA l x = gatL l 0 (downZ l x) := ⟨by unfold layB; simp only [decide_eq_true_eq]; exact h, by unfold layA; exact if_pos h⟩
theorem lay_out {l : List TypeD} {x : Int} (h : ¬ layP l x) : layB l x = false ∧ layA l x = [] := ⟨by unfold layB; simp only [decide_eq_false_iff_not]; exact h, by unfold layA; exact if_neg h⟩
theorem layA_len {l : List TypeD} {x : Int} : (layA l x).length ≤ 144 := by
  by_cases h : layP l x
  · rw [(lay_in h).2]
    have h1 := (gatL_len l (downZ l x) 0).1
    have h2 := down_len h.1.1 x
    omega
  · rw [(lay_out h).2]; simp

def plcCells (p : PlaceD) : List Value := [.string p.fName, .int .i64 p.fAt, .int .i64 p.fSize]
theorem plc_len (p : PlaceD) : (plcCells p).length = 3 := rfl
def OwnP (w : World) (B : Nat) (v : Value) (l : List PlaceD) : Prop := w.ownsRow B 31 3 v l.length (l.flatMap plcCells)
theorem OwnP.nil {w : World} {B : Nat} : OwnP w B (.slice none 0 0) [] := World.ownsRow_nil _ _ _ _
theorem OwnP.alloc {w : World} {B : Nat} {v : Value} {l : List PlaceD} (h : OwnP w B v l) (o : Obj) : OwnP (w.alloc o) B v l := World.ownsRow.alloc h o
theorem OwnP.lower {w : World} {B B' : Nat} {v : Value} {l : List PlaceD} (h : OwnP w B v l) (hB : B' ≤ B) : OwnP w B' v l :=
  ⟨h.1, h.2.imp id (fun ⟨g, cap, cur, h1, h2, h3⟩ => ⟨g, cap, cur, h1, Nat.le_trans hB h2, h3⟩)⟩
theorem OwnP.keep {w w' : World} {B : Nat} {v : Value} {l : List PlaceD} (h : OwnP w B v l) (hb : ∀ b, B ≤ b → b < w.heap.size → w'.heap[b]? = w.heap[b]?) : OwnP w' B v l :=
  ⟨h.1, h.2.imp id (fun ⟨g, cap, cur, h1, h2, h3, h4⟩ => ⟨g, cap, cur, h1, h2, (hb g h2 (Array.getElem?_eq_some_iff.1 h3).1).trans h3, h4⟩)⟩
theorem OwnP.below {w w' : World} {B : Nat} {v : Value} {l : List PlaceD} (h : OwnP w B v l) (hb : Below w.heap.size w w') : OwnP w' B v l := h.keep fun b _ hl => hb.block b hl
theorem plcRows_of {w : World} {B : Nat} {a : Option Addr} {l : List PlaceD} (h : OwnC w B a (l.flatMap plcCells)) : Rows placeS (fun b => B ≤ b) w a l := fun i hi => by
  have hl := flatN_len plcCells 3 plc_len l
  rcases h with h3 | ⟨g, t, cur, rfl, hb, hx, hs, hc⟩
  · rw [h3] at hl
    simp at hl
    omega
  · have hn : placeS.n = 3 := rfl
    refine ⟨g, 0, plcCells l[i], rfl, hb, hx.lt, fun j hj => ?_, rfl⟩
    rw [hn] at hj ⊢
    rw [Nat.zero_add, hx.cell, hc (i * 3 + j) (by rw [hl]; omega), flatN_at plcCells 3 plc_len l i hi j hj]
theorem OwnP.rows {w : World} {B : Nat} {v : Value} {l : List PlaceD} (h : OwnP w B v l) : ∃ a c, v = .slice a l.length c ∧ l.length ≤ c ∧ c ≤ maxLen ∧ OwnC w B a (l.flatMap plcCells) ∧ Rows placeS (fun b => B ≤ b) w a l := by
  obtain ⟨a, c, rfl, h1, h2, h3⟩ := ownC_of_row h
  exact ⟨a, c, rfl, h1, h2, h3, plcRows_of h3⟩
theorem wpList_pushP {ops : Array Oper} {rest : List Oper} {o : Oper} {a : Act} {Q : Exit → Act → World → Prop} (hgd : o.guard = none) (s x : Operand)
    (ho : o.op = .call { callee := .builtin .append, args := #[s, x], argTypes := #[27, 27] })
    (B : Nat) (w : World) (v : Value) (l : List PlaceD) (hs : a.eval s = v) (g : Nat) (hown : OwnP w B v l) (u : PlaceD) (hx : a.eval x = .slice (some ⟨g, 0, none⟩) 1 1) (hg : Box w g 31 #[.string u.fName, .int .i64 u.fAt, .int .i64 u.fSize])
    (h63 : l.length + 1 ≤ 1048577) (hbase : B ≤ w.heap.size)
    (h : ∀ v' w', OwnP w' B v' (l ++ [u]) → w.grownBy w' v.ownBlock → (∀ k, v.ownBlock = some k → B ≤ k ∧ k < w.heap.size) → wpList Try.prog ops Q rest (a.put o.dst v') w') : wpList Try.prog ops Q (o :: rest) a w := by
  obtain ⟨i0, hi, hz0, hz1, hz2⟩ := info_parts infoPlace
  refine wpList_append_own _ hgd s x 27 ho B 31 i0 _ 3 32 Try.underlying27 hi hz0 hz1 hz2 rfl (by decide) v l.length (l.flatMap plcCells) hs hown ⟨g, 0, none⟩ 1 1 (plcCells u) hx rfl ?_
    (fun y hy => by
      simp only [plcCells, List.mem_cons, List.not_mem_nil, or_false] at hy
      rcases hy with rfl | rfl | rfl <;> rfl) (by unfold maxLen; omega) (by omega) (by omega) (fun v' w' h1 h2 _ => h v' w' (by unfold OwnP; rw [List.flatMap_append, List.length_append]; simpa using h1) h2 (World.ownsRow.lt hown))
  intro j u' hu
  rw [add_off, Nat.zero_add, hg.cell]
  simpa [plcCells] using hu
end Go.Proofs.Ytlfigpdjhljdnaa
