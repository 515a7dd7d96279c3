
/-
  What is proved: contracts of TouchedBy, the model's and the program's. No condition beside what each theorem states.
-/
import Derived.Test.YtkhlekpkggglpaaChgG
import Derived.Test.YtkhlekpkggglpaaLSeenG
import Derived.Test.YtkhlekpkggglpaaUnlike
import Derived.Test.YtkhlekpkggglpaaStrClone
import Derived.Deep.RegionHeld3
namespace Go.Proofs.Ytkhlekpkggglpaa
open Go.ChangeShapes Go.WideShapes Go.ChangeAt Go.RowKit
set_option maxRecDepth 100000

def named (cs : List ChangeD) (n : ByteArray) : Prop := ∃ x ∈ cs, x.fName = n
open Classical in
noncomputable def namedB (cs : List ChangeD) (n : ByteArray) : Bool := decide (named cs n)
theorem namedB_true {cs : List ChangeD} {n : ByteArray} (h : named cs n) : namedB cs n = true := by unfold namedB; simpa using h
theorem namedB_false {cs : List ChangeD} {n : ByteArray} (h : ¬ named cs n) : namedB cs n = false := by unfold namedB; simpa using h
open Classical in
/-- The names of what was seen of a module that some changes name. -/
noncomputable def touchL (md : ByteArray) (cs : List ChangeD) (l : List SeenD) : List ByteArray := (l.filter (fun u => decide (u.fMod = md) && namedB cs u.fName)).map SeenD.fName
theorem touch_yes {md : ByteArray} {cs : List ChangeD} {l : List SeenD} {k : Nat} (hk : k < l.length) (h : l[k].fMod = md) (h2 : named cs l[k].fName) : touchL md cs (l.take (k + 1)) = touchL md cs (l.take k) ++ [l[k].fName] := by
  unfold touchL
  rw [List.take_succ_eq_append_getElem hk, List.filter_append, List.map_append]
  simp [h, namedB_true h2]
theorem touch_no {md : ByteArray} {cs : List ChangeD} {l : List SeenD} {k : Nat} (hk : k < l.length) (h : ¬ (l[k].fMod = md ∧ named cs l[k].fName)) : touchL md cs (l.take (k + 1)) = touchL md cs (l.take k) := by
  unfold touchL
  rw [List.take_succ_eq_append_getElem hk, List.filter_append, List.map_append]
  by_cases h1 : l[k].fMod = md
  · simp [h1, namedB_false (fun g => h ⟨h1, g⟩)]
  · simp [h1]
theorem touch_len {md : ByteArray} {cs : List ChangeD} {l : List SeenD} {k : Nat} : (touchL md cs (l.take k)).length ≤ k := by
  unfold touchL
  rw [List.length_map]
  have h := List.length_filter_le (fun u : SeenD => decide (u.fMod = md) && namedB cs u.fName) (l.take k)
  have h2 : (l.take k).length ≤ k := by simp; omega
  exact Nat.le_trans h h2
/-- Names that rise are there once. -/
theorem less_trans : ∀ a b c : List UInt8, Op.bytesLess a b = true → Op.bytesLess b c = true → Op.bytesLess a c = true
  | _, [], _, h, _ => by simp [Op.bytesLess] at h
  | [], _ :: _, [], _, h => by simp [Op.bytesLess] at h
  | [], _ :: _, _ :: _, _, _ => rfl
  | _ :: _, _ :: _, [], _, h => by simp [Op.bytesLess] at h
  | x :: a, y :: b, z :: c, h1, h2 => by
    simp only [Op.bytesLess, Bool.or_eq_true, decide_eq_true_eq, Bool.and_eq_true, beq_iff_eq] at h1 h2 ⊢
    rcases h1 with h1 | ⟨rfl, h1⟩ <;> rcases h2 with h2 | ⟨rfl, h2⟩
    · left
      rw [UInt8.lt_iff_toNat_lt] at *
      omega
    · exact .inl h1
    · exact .inl h2
    · exact .inr ⟨rfl, less_trans a b c h1 h2⟩
theorem less_irr : ∀ a : List UInt8, Op.bytesLess a a = false
  | [] => rfl
  | x :: a => by
    have h : ¬ x < x := by rw [UInt8.lt_iff_toNat_lt]; omega
    simp [Op.bytesLess, less_irr a]
theorem chg_less {l : List ChangeD} (h : chgP l) : ∀ (d i : Nat) (hi : i + d + 1 < l.length), lessB (l[i]'(by omega)).fName l[i + d + 1].fName = true := by
  intro d
  induction d with
  | zero =>
    intro i hi
    have := (h.2 (i + 1) hi hi).2
    rw [ahead_next (by omega)] at this
    exact this
  | succ d ih =>
    intro i hi
    have h1 := ih i (by omega)
    have h2 := (h.2 (i + d + 1 + 1) hi hi).2
    rw [ahead_next (by omega)] at h2
    exact less_trans _ _ _ h1 h2
theorem chg_once {l : List ChangeD} (h : chgP l) {i j : Nat} (hi : i < l.length) (hj : j < l.length) (he : l[i].fName = l[j].fName) : i = j := by
  have key : ∀ i j (hi : i < l.length) (hj : j < l.length), i < j → l[i].fName ≠ l[j].fName := fun i j hi hj hij e => by
    obtain ⟨d, rfl⟩ : ∃ d, j = i + d + 1 := ⟨j - i - 1, by omega⟩
    have := chg_less h d i hj
    rw [e] at this
    unfold lessB at this
    rw [less_irr] at this
    cases this
  by_cases h1 : i < j
  · exact absurd he (key i j hi hj h1)
  · by_cases h2 : j < i
    · exact absurd he.symm (key j i hj hi h2)
    · omega
def touchP (l : List SeenD) (md : ByteArray) (cs : List ChangeD) : Prop := seenP l ∧ nameP md ∧ chgP cs
/-- What is told of a call of TouchedBy. -/
def PostTB (l : List SeenD) (md : ByteArray) (cs : List ChangeD) (w : World) (e : Ending) (w' : World) : Prop := ∃ (v : Value) (r : List ByteArray) (ok : Bool), e = .returned (.tuple #[v, .bool ok]) ∧ OwnStrs w' w.heap.size v r ∧ ((touchP l md cs ∧ r = touchL md cs l ∧ ok = true) ∨ (¬ touchP l md cs ∧ r = [] ∧ ok = false)) ∧ Below w.heap.size w w'
theorem seen_at {Q : Nat → Prop} {w w' : World} {a : Option Addr} {l : List SeenD} {k : Nat} (hr : Rows seenS Q w a l) (hk : k < l.length) (hb : Below w.heap.size w w') :
    ∃ b o, a = some ⟨b, o, none⟩ ∧ b < w.heap.size ∧ w'.cell? ⟨b, o + k * 3, none⟩ = some (.string l[k].fMod) ∧ w'.cell? ⟨b, o + k * 3 + 1, none⟩ = some (.string l[k].fName) ∧ w'.cell? ⟨b, o + k * 3 + 2, none⟩ = some (.int .i64 l[k].fSum) := by
  obtain ⟨b, o, cs, rfl, _, hb1, hc1, hat⟩ := hr k hk
  obtain rfl : cs = [.string l[k].fMod, .string l[k].fName, .int .i64 l[k].fSum] := hat
  have e0 := (hb.cell (p := ⟨b, o + k * 3 + 0, none⟩) hb1).trans (hc1 0 (by decide))
  have e1 := (hb.cell (p := ⟨b, o + k * 3 + 1, none⟩) hb1).trans (hc1 1 (by decide))
  have e2 := (hb.cell (p := ⟨b, o + k * 3 + 2, none⟩) hb1).trans (hc1 2 (by decide))
  exact ⟨b, o, rfl, hb1, e0, e1, e2⟩

theorem touch_step {md : ByteArray} {cs : List ChangeD} {l : List SeenD} {k : Nat} (hk : k < l.length) {m : Bool} (h : m = true ↔ l[k].fMod = md ∧ ∃ i, ∃ h : i < cs.length, i < cs.length ∧ cs[i].fName = l[k].fName) : touchL md cs (l.take (k + 1)) = touchL md cs (l.take k) ++ (if m = true then [l[k].fName] else []) := by
  have e : (∃ i, ∃ h : i < cs.length, i < cs.length ∧ cs[i].fName = l[k].fName) ↔ named cs l[k].fName := ⟨fun ⟨i, hi, _, h⟩ => ⟨cs[i], List.getElem_mem hi, h⟩, fun ⟨x, hx, h⟩ => by
    obtain ⟨i, hi, rfl⟩ := List.getElem_of_mem hx
    exact ⟨i, hi, hi, h⟩⟩
  rw [e] at h
  cases m
  · rw [touch_no hk (fun g => by have := h.2 g; cases this)]
    simp
  · obtain ⟨h1, h2⟩ := h.1 rfl
    rw [touch_yes hk h1 h2]
    simp
set_option maxHeartbeats 16000000 in
theorem sTouch (a : Option Addr) (c : Nat) (l : List SeenD) (md : ByteArray) (a' : Option Addr) (c' : Nat) (cs : List ChangeD) (w : World) (hl : l.length ≤ 1048576) (hc : l.length ≤ c) (hc2 : c ≤ maxLen) (hs : ∀ t ∈ l, t.fMod.size ≤ maxLen ∧ t.fName.size ≤ maxLen) (hr : Rows seenS Any w a l) (hmd : md.size ≤ maxLen) (hl' : cs.length ≤ 1048576) (hc' : cs.length ≤ c') (hc2' : c' ≤ maxLen) (hs' : ∀ t ∈ cs, t.fName.size ≤ maxLen) (hr' : Rows changeS Any w a' cs) :
    Calls Try.prog 8 #[.slice a l.length c, .string md, .slice a' cs.length c'] w (PostTB l md cs w) := by
  have H1 := Lib.hid (sl9Good a c l w hl hc hc2 hs hr)
  have H2 := Lib.hid (fun W (hb : Below w.heap.size w W) => sl12Good a' c' cs W hl' hc' hc2' hs' (hr'.below hb))
  have Hr := Lib.hid hr
  have Hr' := Lib.hid hr'
  clear hs hr hs' hr'
  go_enter Try.func8, Try.ntmps8
  go_wp2_with fail
  refine H1.out.mono ?_
  rintro e w1 ⟨rfl, hb1⟩
  have B1 := Lib.hid hb1
  have H3 := Lib.hid (H2.out w1 hb1)
  clear hb1 H1 H2
  by_cases p1 : seenP l
  · have q1 := seenB_true p1
    by_cases p2 : nameP md
    · have q2 := nameB_true p2
      by_cases p3 : chgP cs
      · have q3 := chgB_true p3
        have P := Lib.hid (show touchP l md cs from ⟨p1, p2, p3⟩)
        have HO := Lib.hid (fun i j (hi : i < cs.length) (hj : j < cs.length) (he : cs[i].fName = cs[j].fName) => chg_once p3 hi hj he)
        have h40 := p1.1
        have h32 := p3.1
        clear p1 p2 p3
        go_wp2_with (first
          | (go_at_call 27; refine (sl1Name _ _ hmd).mono ?_; rintro e w' ⟨rfl, rfl⟩)
          | (go_at_call 28; refine H3.out.mono ?_; rintro e w2 ⟨rfl, hb2⟩; have B2 := Lib.hid (B1.out.trans (hb2.mono B1.out.size)); clear hb2))
        go_loopw [28, 8] (fun i x wr => ∃ (k : Nat) (v : Value), i = .int .i64 k ∧ v = x ∧ k ≤ l.length ∧ OwnStrs wr w.heap.size v (touchL md cs (l.take k)) ∧ Below w.heap.size w wr) (fun i _ _ => l.length - (intOf i).toNat)
        case atStart => exact ⟨0, _, rfl, rfl, by omega, by rw [List.take_zero]; exact OwnStrs.nil, B2.out⟩
        case round =>
          obtain ⟨k, v, rfl, rfl, hk, hown, hbel⟩ := hrel
          have Hown := Lib.hid hown
          by_cases hlt : k < l.length
          · obtain ⟨b, o, hba, hb1, e0, e1, e2⟩ := seen_at Hr.out hlt hbel
            subst hba
            have hsz := hbel.size
            have B3 := Lib.hid (hbel.alloc hbel.size (.cells #[.string l[k].fMod, .string l[k].fName, .int .i64 l[k].fSum] 54))
            have O3 := Lib.hid (Hown.out.alloc (.cells #[.string l[k].fMod, .string l[k].fName, .int .i64 l[k].fSum] 54))
            have X3 := Lib.hid (Box.new wr 54 #[.string l[k].fMod, .string l[k].fName, .int .i64 l[k].fSum])
            have Hst := Lib.hid (fun m => touch_step (md := md) (cs := cs) (m := m) hlt)
            have hlen : (touchL md cs (l.take k)).length ≤ k := touch_len
            have Hvl := Lib.hid (fun q (hq : v.ownBlock = some q) => (World.ownsRow.lt hown q hq).2)
            clear hbel hown
            generalize l[k] = f at *
            generalize touchL md cs (l.take k) = base at *
            go_wp2_with fail
            generalize hgg : wr.heap.size = g at *
            generalize wr.alloc (.cells #[.string f.fMod, .string f.fName, .int .i64 f.fSum] 54) = wq at *
            have Hgg := Lib.hid hgg
            clear hgg
            go_loopw [34, 8] (fun i x wi => ∃ (j : Nat) (v2 : Value) (m : Bool), i = .int .i64 j ∧ v2 = x ∧ j ≤ cs.length ∧ (m = true ↔ f.fMod = md ∧ ∃ i, ∃ h : i < cs.length, i < j ∧ cs[i].fName = f.fName) ∧ (m = false → v2 = v) ∧ OwnStrs wi w.heap.size v2 (base ++ if m = true then [f.fName] else []) ∧ Box wi g 54 #[.string f.fMod, .string f.fName, .int .i64 f.fSum] ∧ Below w.heap.size w wi) (fun i _ _ => cs.length - (intOf i).toNat)
            case atStart => exact ⟨0, _, false, rfl, rfl, by omega, ⟨fun h => (by cases h), fun ⟨_, i, _, h, _⟩ => absurd h (by omega)⟩, fun _ => rfl, by simpa using O3.out, X3.out, B3.out⟩
            case round =>
              obtain ⟨j, v2, m, rfl, rfl, hj, hm, hmv, hown, hx, hbel⟩ := hrel
              have Hm := Lib.hid hm
              have Hmv := Lib.hid hmv
              have Ho := Lib.hid hown
              have X := Lib.hid hx
              clear hm hmv hown
              by_cases hltj : j < cs.length
              · obtain ⟨b', o', hba, hb1', y0, y1⟩ := chg_at Hr'.out hltj hbel
                subst hba
                have hszi := hbel.size
                have B4 := Lib.hid (hbel.alloc hbel.size (.cells #[.string cs[j].fName, .int .i64 cs[j].fKind] 55))
                have O4 := Lib.hid (Ho.out.alloc (.cells #[.string cs[j].fName, .int .i64 cs[j].fKind] 55))
                have X4 := Lib.hid (hx.alloc (.cells #[.string cs[j].fName, .int .i64 cs[j].fKind] 55))
                have x0 : _ = some (Value.string f.fMod) := X4.out.cell 0
                have x1 : _ = some (Value.string f.fName) := X4.out.cell 1
                have gl := hx.lt
                have Hno := Lib.hid (show m = true → cs[j].fName ≠ f.fName from fun h e => by
                  obtain ⟨_, i, hi, hij, he⟩ := Hm.out.1 h
                  have := HO.out i j hi hltj (by rw [he, e])
                  omega)
                have Hnx := Lib.hid (show ¬ (f.fMod = md ∧ cs[j].fName = f.fName) → (m = true ↔ f.fMod = md ∧ ∃ i, ∃ h : i < cs.length, i < j + 1 ∧ cs[i].fName = f.fName) from fun hn => by
                  rw [Hm.out]
                  refine ⟨fun ⟨h, i, hi, h1, h2⟩ => ⟨h, i, hi, by omega, h2⟩, fun ⟨h, i, hi, h1, h2⟩ => ⟨h, i, hi, ?_, h2⟩⟩
                  by_cases e : i = j
                  · subst e; exact absurd ⟨h, h2⟩ hn
                  · omega)
                have Hyx := Lib.hid (show f.fMod = md ∧ cs[j].fName = f.fName → (true = true ↔ f.fMod = md ∧ ∃ i, ∃ h : i < cs.length, i < j + 1 ∧ cs[i].fName = f.fName) from fun h => ⟨fun _ => ⟨h.1, j, hltj, by omega, h.2⟩, fun _ => rfl⟩)
                clear hbel hx
                generalize cs[j] = u at *
                by_cases n1 : f.fMod = md
                · have s1 := bytes_same f.fMod md true (by simp [n1])
                  by_cases n2 : u.fName = f.fName
                  · have hmf : m = false := by
                      cases m
                      · rfl
                      · exact absurd n2 (Hno.out rfl)
                    subst hmf
                    obtain rfl := Hmv.out rfl
                    have s2 := bytes_same f.fName u.fName true (by simp [n2])
                    have Hyy := Lib.hid (Hyx.out ⟨n1, n2⟩)
                    have O5 := Lib.hid (show OwnStrs _ w.heap.size _ base by simpa using O4.out)
                    clear n1 n2
                    have hszq : w.heap.size ≤ (wr.alloc (.cells #[.string u.fName, .int .i64 u.fKind] 55)).heap.size := B4.out.size
                    go_wp2_with (at_builtin; refine wpList_pushStr rfl (.tmp 49) (.tmp 52) rfl w.heap.size _ _ base rfl O5.out _ _ rfl (by simp) (by omega) (by simp; omega) ?_)
                    intro v' w4 hown4 hg4 hlt4
                    have B5 := Lib.hid (B4.out.grown hg4 hszq (fun k hk => (hlt4 k hk).1))
                    have X5 := Lib.hid (show Box w4 g 54 #[.string f.fMod, .string f.fName, .int .i64 f.fSum] from (hg4.block g X4.out.lt (fun e => by have := Hvl.out g e.symm; omega)).trans X4.out)
                    have O6 := Lib.hid hown4
                    clear hown4 hg4 hlt4
                    go_wp2_with fail
                    exact ⟨⟨j + 1, _, true, by congr 1, rfl, by omega, (by simpa using Hyy.out), fun h => (by cases h), by simpa using O6.out, X5.out, B5.out⟩, by simp [intOf]; omega⟩
                  · have s2 := bytes_same f.fName u.fName false (by simp [Ne.symm n2])
                    have Hnn := Lib.hid (Hnx.out (fun h => n2 h.2))
                    clear n1 n2
                    go_wp2_with fail
                    exact ⟨⟨j + 1, _, m, by congr 1, rfl, by omega, Hnn.out, Hmv.out, O4.out, X4.out, B4.out⟩, by simp [intOf]; omega⟩
                · have s1 := bytes_same f.fMod md false (by simp [n1])
                  have Hnn := Lib.hid (Hnx.out (fun h => n1 h.1))
                  clear n1
                  go_wp2_with fail
                  exact ⟨⟨j + 1, _, m, by congr 1, rfl, by omega, Hnn.out, Hmv.out, O4.out, X4.out, B4.out⟩, by simp [intOf]; omega⟩
              · obtain rfl : j = cs.length := by omega
                have Ho2 := Lib.hid (show OwnStrs wr w.heap.size _ (touchL md cs (l.take (k + 1))) by rw [Hst.out m Hm.out]; exact Ho.out)
                have Hbel := Lib.hid hbel
                clear hbel hx
                go_wp2_with fail
                exact ⟨⟨k + 1, _, by congr 1, rfl, by omega, Ho2.out, Hbel.out⟩, by simp [intOf]; omega⟩
          · have hown2 := Hown.out
            rw [show k = l.length by omega, List.take_length] at hown2
            have O2 := Lib.hid hown2
            have Hbel := Lib.hid hbel
            clear hbel hown2 hown
            go_wp2_with fail
            go_ret2
            unfold PostTB
            exact ⟨_, _, true, rfl, O2.out, .inl ⟨P.out, rfl, rfl⟩, Hbel.out⟩
      · have q3 := chgB_false p3
        have P := Lib.hid (show ¬ touchP l md cs from fun h => p3 h.2.2)
        clear p1 p2 p3
        go_wp2_with (first
          | (go_at_call 27; refine (sl1Name _ _ hmd).mono ?_; rintro e w' ⟨rfl, rfl⟩)
          | (go_at_call 28; refine H3.out.mono ?_; rintro e w2 ⟨rfl, hb2⟩; have B2 := Lib.hid (B1.out.trans (hb2.mono B1.out.size)); clear hb2))
        go_ret2
        unfold PostTB
        exact ⟨_, [], false, rfl, OwnStrs.nil, .inr ⟨P.out, rfl, rfl⟩, B2.out⟩
    · have q2 := nameB_false p2
      have P := Lib.hid (show ¬ touchP l md cs from fun h => p2 h.2.1)
      clear p1 p2
      go_wp2_with (go_at_call 27; refine (sl1Name _ _ hmd).mono ?_; rintro e w' ⟨rfl, rfl⟩)
      go_ret2
      unfold PostTB
      exact ⟨_, [], false, rfl, OwnStrs.nil, .inr ⟨P.out, rfl, rfl⟩, B1.out⟩
  · have q1 := seenB_false p1
    have P := Lib.hid (show ¬ touchP l md cs from fun h => p1 h.1)
    clear p1
    go_wp2_with fail
    go_ret2
    unfold PostTB
    exact ⟨_, [], false, rfl, OwnStrs.nil, .inr ⟨P.out, rfl, rfl⟩, B1.out⟩

/-! The program's side. -/
set_option maxHeartbeats 4000000 in
theorem iNamesClo (u : ChangeD) (n : ByteArray) (g : Nat) (q : Bool) (w : World) (hg : Box w g 9 #[.string n]) (hq : (u.fName.toList == n.toList) = q) :
    Calls Try.prog 55 #[.agg #[.string u.fName, .int .i64 u.fKind], .pointer (some ⟨g, 0, none⟩)] w fun e w' => e = .returned (.bool q) ∧ Below w.heap.size w w' := by
  have B0 := Lib.hid ((Below.refl w.heap.size w).alloc (Nat.le_refl _) (.cells #[.string u.fName, .int .i64 u.fKind] 55))
  have X0 := (Box.new w 55 #[.string u.fName, .int .i64 u.fKind])
  have G0 := hg.below ((Below.refl w.heap.size w).alloc (Nat.le_refl _) (.cells #[.string u.fName, .int .i64 u.fKind] 55)) hg.lt
  have x0 : _ = some (Value.string u.fName) := X0.cell 0
  have g0 : _ = some (Value.string n) := G0.cell 0
  clear X0 G0 hg
  go_enter Try.func55, Try.ntmps55
  go_wp2_with fail
  go_ret
  exact ⟨rfl, B0.out⟩

set_option maxHeartbeats 4000000 in
theorem iIndexNamed (a : Option Addr) (c : Nat) (cs : List ChangeD) (n : ByteArray) (g : Nat) (w : World) (hl : cs.length ≤ 1048576) (hg : Box w g 9 #[.string n]) (hr : Rows changeS Any w a cs) :
    Calls Try.prog 60 #[.slice a cs.length c, .func (.func 55) #[] #[.pointer (some ⟨g, 0, none⟩)]] w fun e w' => ∃ r : Int, e = .returned (.int .i64 r) ∧ (0 ≤ r ↔ named cs n) ∧ Below w.heap.size w w' := by
  have Hr := Lib.hid hr
  have G := Lib.hid hg
  clear hr hg
  go_enter Try.func60, Try.ntmps60
  go_wp2_with fail
  go_loopw [8] (fun i wr => ∃ k : Nat, i = .int .i64 k ∧ k ≤ cs.length ∧ (∀ j (hj : j < cs.length), j < k → cs[j].fName ≠ n) ∧ Below w.heap.size w wr) (fun i _ => cs.length - (intOf i).toNat)
  case atStart => exact ⟨0, rfl, by omega, fun j _ hj => absurd hj (by omega), Below.refl _ _⟩
  case round =>
    obtain ⟨k, rfl, hk, hno, hbel⟩ := hrel
    have Hno := Lib.hid hno
    clear hno
    by_cases hlt : k < cs.length
    · obtain ⟨b, o, hba, hb1, e0, e1⟩ := chg_at Hr.out hlt hbel
      subst hba
      have Hbel := Lib.hid hbel
      have G1 := Lib.hid (G.out.below hbel G.out.lt)
      have i1 : (0 : Int) ≤ (k : Int) := by omega
      have i2 : (k : Int) < (cs.length : Int) := by omega
      have Hy := Lib.hid (show cs[k].fName = n → named cs n from fun h => ⟨cs[k], List.getElem_mem hlt, h⟩)
      have Hn := Lib.hid (show cs[k].fName ≠ n → ∀ j (hj : j < cs.length), j < k + 1 → cs[j].fName ≠ n from fun h j hj hjk => by
        by_cases e : j = k
        · subst e; exact h
        · exact Hno.out j hj (by omega))
      clear hbel
      generalize cs[k] = u at *
      by_cases he : u.fName = n
      · have Hv := Lib.hid (Hy.out he)
        have HC := Lib.hid (iNamesClo u n g true wr G1.out (bytes_same u.fName n true (by simp [he])))
        clear he
        go_wp2_with fail
        refine HC.out.mono ?_
        rintro e w2 ⟨rfl, hb2⟩
        have B2 := Lib.hid (Hbel.out.trans (hb2.mono Hbel.out.size))
        clear hb2
        go_wp2_with fail
        go_ret
        exact ⟨_, rfl, ⟨fun _ => Hv.out, fun _ => by omega⟩, B2.out⟩
      · have Hv := Lib.hid (Hn.out he)
        have HC := Lib.hid (iNamesClo u n g false wr G1.out (bytes_same u.fName n false (by simp [he])))
        clear he
        go_wp2_with fail
        refine HC.out.mono ?_
        rintro e w2 ⟨rfl, hb2⟩
        have B2 := Lib.hid (Hbel.out.trans (hb2.mono Hbel.out.size))
        clear hb2
        go_wp2_with fail
        exact ⟨⟨k + 1, by congr 1, by omega, Hv.out, B2.out⟩, by simp [intOf]; omega⟩
    · have Hv := Lib.hid (show ¬ named cs n from fun ⟨x, hx, h⟩ => by
        obtain ⟨j, hj, rfl⟩ := List.getElem_of_mem hx
        exact Hno.out j hj (by omega) h)
      have Hbel := Lib.hid hbel
      clear hbel
      go_wp2_with fail
      go_ret
      exact ⟨_, rfl, ⟨fun h => absurd h (by omega), fun h => absurd h Hv.out⟩, Hbel.out⟩
set_option maxHeartbeats 4000000 in
theorem iContainsNamed (a : Option Addr) (c : Nat) (cs : List ChangeD) (n : ByteArray) (g : Nat) (w : World) (hl : cs.length ≤ 1048576) (hg : Box w g 9 #[.string n]) (hr : Rows changeS Any w a cs) :
    Calls Try.prog 54 #[.slice a cs.length c, .func (.func 55) #[] #[.pointer (some ⟨g, 0, none⟩)]] w fun e w' => e = .returned (.bool (namedB cs n)) ∧ Below w.heap.size w w' := by
  have HI := Lib.hid (iIndexNamed a c cs n g w hl hg hr)
  clear hr hg
  go_enter Try.func54, Try.ntmps54
  go_wp2_with fail
  refine HI.out.mono ?_
  rintro e w1 ⟨r, rfl, hiff, hb⟩
  have H := Lib.hid (show namedB cs n = decide (0 ≤ r) from by
    by_cases h : named cs n
    · rw [namedB_true h, decide_eq_true (hiff.2 h)]
    · rw [namedB_false h, decide_eq_false (fun g => h (hiff.1 g))])
  have B1 := Lib.hid hb
  clear hiff hb
  go_wp2_with fail
  go_ret
  exact ⟨by rw [H.out]; rfl, B1.out⟩
set_option maxHeartbeats 4000000 in
theorem iNamesOne (a : Option Addr) (c : Nat) (cs : List ChangeD) (n : ByteArray) (w : World) (hl : cs.length ≤ 1048576) (hr : Rows changeS Any w a cs) :
    Calls Try.prog 37 #[.slice a cs.length c, .string n] w fun e w' => e = .returned (.bool (namedB cs n)) ∧ Below w.heap.size w w' := by
  have B0 := Lib.hid ((Below.refl w.heap.size w).alloc (Nat.le_refl _) (.cells #[.string n] 9))
  have HI := Lib.hid (iContainsNamed a c cs n w.heap.size _ hl (Box.new w 9 #[.string n]) (hr.below B0.out))
  clear hr
  go_enter Try.func37, Try.ntmps37
  go_wp2_with fail
  refine HI.out.mono ?_
  rintro e w1 ⟨rfl, hb⟩
  have B1 := Lib.hid (B0.out.trans (hb.mono B0.out.size))
  clear hb
  go_wp2_with fail
  go_ret
  exact ⟨rfl, B1.out⟩

set_option maxHeartbeats 8000000 in
theorem iTouchClo (t : SeenD) (md : ByteArray) (a' : Option Addr) (c' : Nat) (cs : List ChangeD) (g1 g2 : Nat) (q : Bool) (w : World) (hn : t.fName.size ≤ 1048576) (hl : cs.length ≤ 1048576) (hg1 : Box w g1 9 #[.string md]) (hg2 : Box w g2 31 #[.slice a' cs.length c']) (hr : Rows changeS Any w a' cs) (hq : (decide (t.fMod = md) && namedB cs t.fName) = q) :
    Calls Try.prog 35 #[.agg #[.string t.fMod, .string t.fName, .int .i64 t.fSum], .pointer (some ⟨g1, 0, none⟩), .pointer (some ⟨g2, 0, none⟩)] w fun e w' => e = .returned (.tuple #[.string t.fName, .bool q]) ∧ Below w.heap.size w w' := by
  have hb0 := ((Below.refl w.heap.size w).alloc (Nat.le_refl _) (.cells #[.string t.fMod, .string t.fName, .int .i64 t.fSum] 54))
  have B0 := Lib.hid hb0
  have X0 := (Box.new w 54 #[.string t.fMod, .string t.fName, .int .i64 t.fSum])
  have x0 : _ = some (Value.string t.fMod) := X0.cell 0
  have x1 : _ = some (Value.string t.fName) := X0.cell 1
  have x2 : _ = some (Value.string md) := (hg1.below hb0 hg1.lt).cell 0
  have x3 : _ = some (Value.slice a' cs.length c') := (hg2.below hb0 hg2.lt).cell 0
  have hg1 := (hg1.below hb0 hg1.lt).lt
  have hg2 := (hg2.below hb0 hg2.lt).lt
  have hbq := B0.out.size
  have hxl := X0.lt
  have HCl := Lib.hid (fun W => iStrClone t.fName W hn)
  have HNo := Lib.hid (fun W (hW : Below (w.alloc (.cells #[.string t.fMod, .string t.fName, .int .i64 t.fSum] 54)).heap.size (w.alloc (.cells #[.string t.fMod, .string t.fName, .int .i64 t.fSum] 54)) W) => iNamesOne a' c' cs t.fName W hl ((hr.below hb0).below hW))
  clear X0 hb0 hr
  go_enter Try.func35, Try.ntmps35
  go_wp2_with fail
  generalize w.alloc (.cells #[.string t.fMod, .string t.fName, .int .i64 t.fSum] 54) = wq at *
  by_cases h : t.fMod = md
  · have s1 := bytes_same t.fMod md true (by simp [h])
    have Hq := Lib.hid (show namedB cs t.fName = q by rw [← hq, decide_eq_true h, Bool.true_and])
    clear h hq
    --TY<
    refine wp_region_held_drew (S := fun w' => w'.cell? ⟨w.heap.size, 0, none⟩ = some (.string t.fMod) ∧ w'.cell? ⟨w.heap.size, 1, none⟩ = some (.string t.fName) ∧ w'.cell? ⟨g1, 0, none⟩ = some (.string md) ∧ w'.cell? ⟨g2, 0, none⟩ = some (.slice a' cs.length c')) (by kernel_rfl) ?_ (fun hHeld => ?_)
    · try dsimp only
      exact ⟨x0, x1, x2, x3⟩
    refine wpAnyH_take (i := 0) (oi := { dst := some 6, op := Op.fieldAddr 54 (Operand.tmp 3) 1, type := 0, pos := "l12_diffs.go:54", after := #[], guard := none }) (v := .pointer (some ⟨w.heap.size, 1, none⟩)) rfl (by kernel_rfl) (by kernel_rfl) (by kernel_rfl) (fun _ _ _ h => h) (Or.inl ⟨by rfl, ?_⟩) (by assumption) ?_
    · intro wS hSw
      try dsimp only at hSw
      go_simp
    try simp only [Act.put, List.setIfInBounds_toArray, List.set_cons_zero, List.set_cons_succ]
    refine wpAnyH_take (i := 1) (oi := { dst := some 7, op := Op.load 9 (Operand.tmp 6), type := 9, pos := "l12_diffs.go:54", after := #[{ on := 0, ground := Ground.data }], guard := none }) (v := .string t.fName) rfl (by kernel_rfl) (by kernel_rfl) (by kernel_rfl) (fun _ _ _ h => h) (Or.inl ⟨by rfl, ?_⟩) (by assumption) ?_
    · intro wS hSw
      try dsimp only at hSw
      go_simp
    try simp only [Act.put, List.setIfInBounds_toArray, List.set_cons_zero, List.set_cons_succ]
    refine wpAnyH_take (i := 3) (oi := { dst := some 9, op := Op.fieldAddr 54 (Operand.tmp 3) 0, type := 0, pos := "l12_diffs.go:54", after := #[], guard := none }) (v := .pointer (some ⟨w.heap.size, 0, none⟩)) rfl (by kernel_rfl) (by kernel_rfl) (by kernel_rfl) (fun _ _ _ h => h) (Or.inl ⟨by rfl, ?_⟩) (by assumption) ?_
    · intro wS hSw
      try dsimp only at hSw
      go_simp
    try simp only [Act.put, List.setIfInBounds_toArray, List.set_cons_zero, List.set_cons_succ]
    refine wpAnyH_take (i := 4) (oi := { dst := some 10, op := Op.load 9 (Operand.tmp 9), type := 9, pos := "l12_diffs.go:54", after := #[{ on := 3, ground := Ground.data }], guard := none }) (v := .string t.fMod) rfl (by kernel_rfl) (by kernel_rfl) (by kernel_rfl) (fun _ _ _ h => h) (Or.inl ⟨by rfl, ?_⟩) (by assumption) ?_
    · intro wS hSw
      try dsimp only at hSw
      go_simp
    try simp only [Act.put, List.setIfInBounds_toArray, List.set_cons_zero, List.set_cons_succ]
    refine wpAnyH_take (i := 5) (oi := { dst := some 11, op := Op.load 9 (Operand.tmp 1), type := 9, pos := "l12_diffs.go:54", after := #[], guard := none }) (v := .string md) rfl (by kernel_rfl) (by kernel_rfl) (by kernel_rfl) (fun _ _ _ h => h) (Or.inl ⟨by rfl, ?_⟩) (by assumption) ?_
    · intro wS hSw
      try dsimp only at hSw
      go_simp
    try simp only [Act.put, List.setIfInBounds_toArray, List.set_cons_zero, List.set_cons_succ]
    refine wpAnyH_take (i := 6) (oi := { dst := some 12, op := Op.binOp BinOp.eql 9 (Operand.tmp 10) (Operand.tmp 11) 9, type := 4, pos := "l12_diffs.go:54", after := #[{ on := 4, ground := Ground.data }, { on := 5, ground := Ground.data }], guard := none }) (v := .bool true) rfl (by kernel_rfl) (by kernel_rfl) (by kernel_rfl) (fun _ _ _ h => h) (Or.inl ⟨by rfl, ?_⟩) (by assumption) ?_
    · intro wS hSw
      try dsimp only at hSw
      go_simp
    try simp only [Act.put, List.setIfInBounds_toArray, List.set_cons_zero, List.set_cons_succ]
    refine wpAnyH_ready (rs := [2]) (by kernel_rfl) (by simp) ?_
    refine AllReadyH.cons (o := { dst := some 8, op := Op.call { callee := Callee.value (Operand.func 36), args := #[Operand.tmp 7], argTypes := #[9] }, type := 9, pos := "l12_diffs.go:54", after := #[{ on := 1, ground := Ground.data }], guard := none }) rfl (fun K hK => ?_) AllReadyH.nil
    go_simp
    first
      | (go_at_call 36; refine (HCl.out _).mono ?_; rintro e wh ⟨rfl, hbh⟩; have hbd : Below wq.heap.size wq wh := ⟨hbh.os, hbh.tape, hbh.output, hbh.size, hbh.block⟩; have y0 := (hbd.cell (p := ⟨w.heap.size, 0, none⟩) hxl).trans x0; have y1 := (hbd.cell (p := ⟨w.heap.size, 1, none⟩) hxl).trans x1; have y2 := (hbd.cell (p := ⟨g1, 0, none⟩) hg1).trans x2; have y3 := (hbd.cell (p := ⟨g2, 0, none⟩) hg2).trans x3; have BC := Lib.hid (B0.out.trans (hbd.mono hbq)); have hsz1 := hbd.size; have HN1 := Lib.hid (HNo.out wh hbd); clear hbd hbh)
      | (go_at_call 37; refine HN1.out.mono ?_; rintro e wi ⟨rfl, hbi⟩; have z0 := (hbi.cell (p := ⟨w.heap.size, 0, none⟩) (Nat.lt_of_lt_of_le hxl hsz1)).trans y0; have z1 := (hbi.cell (p := ⟨w.heap.size, 1, none⟩) (Nat.lt_of_lt_of_le hxl hsz1)).trans y1; have z2 := (hbi.cell (p := ⟨g1, 0, none⟩) (Nat.lt_of_lt_of_le hg1 hsz1)).trans y2; have z3 := (hbi.cell (p := ⟨g2, 0, none⟩) (Nat.lt_of_lt_of_le hg2 hsz1)).trans y3; have BD := Lib.hid (BC.out.trans (hbi.mono BC.out.size)); clear hbi)
    refine hK.out _ _ ?_ (fun hHeld2 => ?_)
    · try dsimp only
      first | exact ⟨z0, z1, z2, z3⟩ | exact ⟨y0, y1, y2, y3⟩
    clear hK K hHeld
    have hHeld := hHeld2
    clear hHeld2
    try simp only [Act.put, List.setIfInBounds_toArray, List.set_cons_zero, List.set_cons_succ]
    refine wpAnyH_take (i := 7) (oi := { dst := some 13, op := Op.move (Operand.tmp 12), type := 4, pos := "l12_diffs.go:54", after := #[{ on := 6, ground := Ground.data }, { on := 2, ground := Ground.chain }], guard := none }) (v := .bool true) rfl (by kernel_rfl) (by kernel_rfl) (by kernel_rfl) (fun _ _ _ h => h) (Or.inl ⟨by rfl, ?_⟩) (by assumption) ?_
    · intro wS hSw
      try dsimp only at hSw
      go_simp
    try simp only [Act.put, List.setIfInBounds_toArray, List.set_cons_zero, List.set_cons_succ]
    refine wpAnyH_take (i := 8) (oi := { dst := some 14, op := Op.load 31 (Operand.tmp 2), type := 31, pos := "l12_diffs.go:54", after := #[{ on := 7, ground := Ground.guard }], guard := some (7, true) }) (v := .slice a' cs.length c') rfl (by kernel_rfl) (by kernel_rfl) (by kernel_rfl) (fun _ _ _ h => h) (Or.inl ⟨by rfl, ?_⟩) (by assumption) ?_
    · intro wS hSw
      try dsimp only at hSw
      go_simp
    try simp only [Act.put, List.setIfInBounds_toArray, List.set_cons_zero, List.set_cons_succ]
    refine wpAnyH_take (i := 9) (oi := { dst := some 15, op := Op.fieldAddr 54 (Operand.tmp 3) 1, type := 0, pos := "l12_diffs.go:54", after := #[{ on := 7, ground := Ground.guard }], guard := some (7, true) }) (v := .pointer (some ⟨w.heap.size, 1, none⟩)) rfl (by kernel_rfl) (by kernel_rfl) (by kernel_rfl) (fun _ _ _ h => h) (Or.inl ⟨by rfl, ?_⟩) (by assumption) ?_
    · intro wS hSw
      try dsimp only at hSw
      go_simp
    try simp only [Act.put, List.setIfInBounds_toArray, List.set_cons_zero, List.set_cons_succ]
    refine wpAnyH_take (i := 10) (oi := { dst := some 16, op := Op.load 9 (Operand.tmp 15), type := 9, pos := "l12_diffs.go:54", after := #[{ on := 9, ground := Ground.data }, { on := 7, ground := Ground.guard }], guard := some (7, true) }) (v := .string t.fName) rfl (by kernel_rfl) (by kernel_rfl) (by kernel_rfl) (fun _ _ _ h => h) (Or.inl ⟨by rfl, ?_⟩) (by assumption) ?_
    · intro wS hSw
      try dsimp only at hSw
      go_simp
    try simp only [Act.put, List.setIfInBounds_toArray, List.set_cons_zero, List.set_cons_succ]
    refine wpAnyH_ready (rs := [11]) (by kernel_rfl) (by simp) ?_
    refine AllReadyH.cons (o := { dst := some 17, op := Op.call { callee := Callee.value (Operand.func 37), args := #[Operand.tmp 14, Operand.tmp 16], argTypes := #[31, 9] }, type := 4, pos := "l12_diffs.go:54", after := #[{ on := 8, ground := Ground.data }, { on := 10, ground := Ground.data }, { on := 7, ground := Ground.chain }, { on := 7, ground := Ground.guard }], guard := some (7, true) }) rfl (fun K hK => ?_) AllReadyH.nil
    go_simp
    first
      | (go_at_call 36; refine (HCl.out _).mono ?_; rintro e wh ⟨rfl, hbh⟩; have hbd : Below wq.heap.size wq wh := ⟨hbh.os, hbh.tape, hbh.output, hbh.size, hbh.block⟩; have y0 := (hbd.cell (p := ⟨w.heap.size, 0, none⟩) hxl).trans x0; have y1 := (hbd.cell (p := ⟨w.heap.size, 1, none⟩) hxl).trans x1; have y2 := (hbd.cell (p := ⟨g1, 0, none⟩) hg1).trans x2; have y3 := (hbd.cell (p := ⟨g2, 0, none⟩) hg2).trans x3; have BC := Lib.hid (B0.out.trans (hbd.mono hbq)); have hsz1 := hbd.size; have HN1 := Lib.hid (HNo.out wh hbd); clear hbd hbh)
      | (go_at_call 37; refine HN1.out.mono ?_; rintro e wi ⟨rfl, hbi⟩; have z0 := (hbi.cell (p := ⟨w.heap.size, 0, none⟩) (Nat.lt_of_lt_of_le hxl hsz1)).trans y0; have z1 := (hbi.cell (p := ⟨w.heap.size, 1, none⟩) (Nat.lt_of_lt_of_le hxl hsz1)).trans y1; have z2 := (hbi.cell (p := ⟨g1, 0, none⟩) (Nat.lt_of_lt_of_le hg1 hsz1)).trans y2; have z3 := (hbi.cell (p := ⟨g2, 0, none⟩) (Nat.lt_of_lt_of_le hg2 hsz1)).trans y3; have BD := Lib.hid (BC.out.trans (hbi.mono BC.out.size)); clear hbi)
    refine hK.out _ _ ?_ (fun hHeld2 => ?_)
    · try dsimp only
      first | exact ⟨z0, z1, z2, z3⟩ | exact ⟨y0, y1, y2, y3⟩
    clear hK K hHeld
    have hHeld := hHeld2
    clear hHeld2
    try simp only [Act.put, List.setIfInBounds_toArray, List.set_cons_zero, List.set_cons_succ]
    refine wpAnyH_take (i := 12) (oi := { dst := some 18, op := Op.pick (Operand.tmp 13) (Operand.tmp 17) (Operand.const (Value.bool false)), type := 4, pos := "l12_diffs.go:54", after := #[{ on := 7, ground := Ground.data }, { on := 11, ground := Ground.data }, { on := 13, ground := Ground.gcOnly Departure.lateStores }], guard := none }) (v := .bool (namedB cs t.fName)) rfl (by kernel_rfl) (by kernel_rfl) (by kernel_rfl) (fun _ _ _ h => h) (Or.inl ⟨by rfl, ?_⟩) (by assumption) ?_
    · intro wS hSw
      try dsimp only at hSw
      go_simp
    try simp only [Act.put, List.setIfInBounds_toArray, List.set_cons_zero, List.set_cons_succ]
    refine wpAnyH_take (i := 13) (oi := { dst := some 4, op := Op.assign (Operand.tmp 8), type := 9, pos := "l12_diffs.go:54", after := #[{ on := 2, ground := Ground.data }, { on := 11, ground := Ground.chain }, { on := 0, ground := Ground.phase }, { on := 1, ground := Ground.phase }, { on := 2, ground := Ground.phase }, { on := 3, ground := Ground.textOnly Departure.lateStores }, { on := 4, ground := Ground.textOnly Departure.lateStores }, { on := 5, ground := Ground.textOnly Departure.lateStores }, { on := 6, ground := Ground.textOnly Departure.lateStores }, { on := 7, ground := Ground.textOnly Departure.lateStores }, { on := 8, ground := Ground.textOnly Departure.lateStores }, { on := 9, ground := Ground.textOnly Departure.lateStores }, { on := 10, ground := Ground.textOnly Departure.lateStores }, { on := 11, ground := Ground.textOnly Departure.lateStoresUnsure }, { on := 12, ground := Ground.textOnly Departure.lateStores }], guard := none }) (v := .string t.fName) rfl (by kernel_rfl) (by kernel_rfl) (by kernel_rfl) (fun _ _ _ h => h) (Or.inl ⟨by rfl, ?_⟩) (by assumption) ?_
    · intro wS hSw
      try dsimp only at hSw
      go_simp
    try simp only [Act.put, List.setIfInBounds_toArray, List.set_cons_zero, List.set_cons_succ]
    refine wpAnyH_take (i := 14) (oi := { dst := some 5, op := Op.assign (Operand.tmp 18), type := 4, pos := "l12_diffs.go:54", after := #[{ on := 12, ground := Ground.data }, { on := 13, ground := Ground.chain }, { on := 0, ground := Ground.phase }, { on := 1, ground := Ground.phase }, { on := 2, ground := Ground.phase }, { on := 3, ground := Ground.phase }, { on := 4, ground := Ground.phase }, { on := 5, ground := Ground.phase }, { on := 6, ground := Ground.phase }, { on := 7, ground := Ground.phase }, { on := 8, ground := Ground.phase }, { on := 9, ground := Ground.phase }, { on := 10, ground := Ground.phase }, { on := 11, ground := Ground.phase }, { on := 12, ground := Ground.phase }, { on := 13, ground := Ground.phase }], guard := none }) (v := .bool (namedB cs t.fName)) rfl (by kernel_rfl) (by kernel_rfl) (by kernel_rfl) (fun _ _ _ h => h) (Or.inl ⟨by rfl, ?_⟩) (by assumption) ?_
    · intro wS hSw
      try dsimp only at hSw
      go_simp
    try simp only [Act.put, List.setIfInBounds_toArray, List.set_cons_zero, List.set_cons_succ]
    refine wpAnyH_done (by kernel_rfl) ?_ _
    --TY>
    go_wp2_with fail
    go_ret2
    exact ⟨by rw [← Hq.out]; rfl, BD.out⟩
  · have s1 := bytes_same t.fMod md false (by simp [h])
    have Hq := Lib.hid (show false = q by rw [← hq, decide_eq_false h, Bool.false_and])
    clear h hq
    --TN<
    refine wp_region_held_drew (S := fun w' => w'.cell? ⟨w.heap.size, 0, none⟩ = some (.string t.fMod) ∧ w'.cell? ⟨w.heap.size, 1, none⟩ = some (.string t.fName) ∧ w'.cell? ⟨g1, 0, none⟩ = some (.string md) ∧ w'.cell? ⟨g2, 0, none⟩ = some (.slice a' cs.length c')) (by kernel_rfl) ?_ (fun hHeld => ?_)
    · try dsimp only
      exact ⟨x0, x1, x2, x3⟩
    refine wpAnyH_take (i := 0) (oi := { dst := some 6, op := Op.fieldAddr 54 (Operand.tmp 3) 1, type := 0, pos := "l12_diffs.go:54", after := #[], guard := none }) (v := .pointer (some ⟨w.heap.size, 1, none⟩)) rfl (by kernel_rfl) (by kernel_rfl) (by kernel_rfl) (fun _ _ _ h => h) (Or.inl ⟨by rfl, ?_⟩) (by assumption) ?_
    · intro wS hSw
      try dsimp only at hSw
      go_simp
    try simp only [Act.put, List.setIfInBounds_toArray, List.set_cons_zero, List.set_cons_succ]
    refine wpAnyH_take (i := 1) (oi := { dst := some 7, op := Op.load 9 (Operand.tmp 6), type := 9, pos := "l12_diffs.go:54", after := #[{ on := 0, ground := Ground.data }], guard := none }) (v := .string t.fName) rfl (by kernel_rfl) (by kernel_rfl) (by kernel_rfl) (fun _ _ _ h => h) (Or.inl ⟨by rfl, ?_⟩) (by assumption) ?_
    · intro wS hSw
      try dsimp only at hSw
      go_simp
    try simp only [Act.put, List.setIfInBounds_toArray, List.set_cons_zero, List.set_cons_succ]
    refine wpAnyH_take (i := 3) (oi := { dst := some 9, op := Op.fieldAddr 54 (Operand.tmp 3) 0, type := 0, pos := "l12_diffs.go:54", after := #[], guard := none }) (v := .pointer (some ⟨w.heap.size, 0, none⟩)) rfl (by kernel_rfl) (by kernel_rfl) (by kernel_rfl) (fun _ _ _ h => h) (Or.inl ⟨by rfl, ?_⟩) (by assumption) ?_
    · intro wS hSw
      try dsimp only at hSw
      go_simp
    try simp only [Act.put, List.setIfInBounds_toArray, List.set_cons_zero, List.set_cons_succ]
    refine wpAnyH_take (i := 4) (oi := { dst := some 10, op := Op.load 9 (Operand.tmp 9), type := 9, pos := "l12_diffs.go:54", after := #[{ on := 3, ground := Ground.data }], guard := none }) (v := .string t.fMod) rfl (by kernel_rfl) (by kernel_rfl) (by kernel_rfl) (fun _ _ _ h => h) (Or.inl ⟨by rfl, ?_⟩) (by assumption) ?_
    · intro wS hSw
      try dsimp only at hSw
      go_simp
    try simp only [Act.put, List.setIfInBounds_toArray, List.set_cons_zero, List.set_cons_succ]
    refine wpAnyH_take (i := 5) (oi := { dst := some 11, op := Op.load 9 (Operand.tmp 1), type := 9, pos := "l12_diffs.go:54", after := #[], guard := none }) (v := .string md) rfl (by kernel_rfl) (by kernel_rfl) (by kernel_rfl) (fun _ _ _ h => h) (Or.inl ⟨by rfl, ?_⟩) (by assumption) ?_
    · intro wS hSw
      try dsimp only at hSw
      go_simp
    try simp only [Act.put, List.setIfInBounds_toArray, List.set_cons_zero, List.set_cons_succ]
    refine wpAnyH_take (i := 6) (oi := { dst := some 12, op := Op.binOp BinOp.eql 9 (Operand.tmp 10) (Operand.tmp 11) 9, type := 4, pos := "l12_diffs.go:54", after := #[{ on := 4, ground := Ground.data }, { on := 5, ground := Ground.data }], guard := none }) (v := .bool false) rfl (by kernel_rfl) (by kernel_rfl) (by kernel_rfl) (fun _ _ _ h => h) (Or.inl ⟨by rfl, ?_⟩) (by assumption) ?_
    · intro wS hSw
      try dsimp only at hSw
      go_simp
    try simp only [Act.put, List.setIfInBounds_toArray, List.set_cons_zero, List.set_cons_succ]
    refine wpAnyH_ready (rs := [2]) (by kernel_rfl) (by simp) ?_
    refine AllReadyH.cons (o := { dst := some 8, op := Op.call { callee := Callee.value (Operand.func 36), args := #[Operand.tmp 7], argTypes := #[9] }, type := 9, pos := "l12_diffs.go:54", after := #[{ on := 1, ground := Ground.data }], guard := none }) rfl (fun K hK => ?_) AllReadyH.nil
    go_simp
    first
      | (go_at_call 36; refine (HCl.out _).mono ?_; rintro e wh ⟨rfl, hbh⟩; have hbd : Below wq.heap.size wq wh := ⟨hbh.os, hbh.tape, hbh.output, hbh.size, hbh.block⟩; have y0 := (hbd.cell (p := ⟨w.heap.size, 0, none⟩) hxl).trans x0; have y1 := (hbd.cell (p := ⟨w.heap.size, 1, none⟩) hxl).trans x1; have y2 := (hbd.cell (p := ⟨g1, 0, none⟩) hg1).trans x2; have y3 := (hbd.cell (p := ⟨g2, 0, none⟩) hg2).trans x3; have BC := Lib.hid (B0.out.trans (hbd.mono hbq)); have hsz1 := hbd.size; have HN1 := Lib.hid (HNo.out wh hbd); clear hbd hbh)
      | (go_at_call 37; refine HN1.out.mono ?_; rintro e wi ⟨rfl, hbi⟩; have z0 := (hbi.cell (p := ⟨w.heap.size, 0, none⟩) (Nat.lt_of_lt_of_le hxl hsz1)).trans y0; have z1 := (hbi.cell (p := ⟨w.heap.size, 1, none⟩) (Nat.lt_of_lt_of_le hxl hsz1)).trans y1; have z2 := (hbi.cell (p := ⟨g1, 0, none⟩) (Nat.lt_of_lt_of_le hg1 hsz1)).trans y2; have z3 := (hbi.cell (p := ⟨g2, 0, none⟩) (Nat.lt_of_lt_of_le hg2 hsz1)).trans y3; have BD := Lib.hid (BC.out.trans (hbi.mono BC.out.size)); clear hbi)
    refine hK.out _ _ ?_ (fun hHeld2 => ?_)
    · try dsimp only
      first | exact ⟨z0, z1, z2, z3⟩ | exact ⟨y0, y1, y2, y3⟩
    clear hK K hHeld
    have hHeld := hHeld2
    clear hHeld2
    try simp only [Act.put, List.setIfInBounds_toArray, List.set_cons_zero, List.set_cons_succ]
    refine wpAnyH_take (i := 7) (oi := { dst := some 13, op := Op.move (Operand.tmp 12), type := 4, pos := "l12_diffs.go:54", after := #[{ on := 6, ground := Ground.data }, { on := 2, ground := Ground.chain }], guard := none }) (v := .bool false) rfl (by kernel_rfl) (by kernel_rfl) (by kernel_rfl) (fun _ _ _ h => h) (Or.inl ⟨by rfl, ?_⟩) (by assumption) ?_
    · intro wS hSw
      try dsimp only at hSw
      go_simp
    try simp only [Act.put, List.setIfInBounds_toArray, List.set_cons_zero, List.set_cons_succ]
    refine wpAnyH_take (i := 8) (oi := { dst := some 14, op := Op.load 31 (Operand.tmp 2), type := 31, pos := "l12_diffs.go:54", after := #[{ on := 7, ground := Ground.guard }], guard := some (7, true) }) (v := undef) rfl (by kernel_rfl) (by kernel_rfl) (by kernel_rfl) (fun _ _ _ h => h) (Or.inr ⟨by rfl, rfl⟩) (by assumption) ?_
    try simp only [Act.put, List.setIfInBounds_toArray, List.set_cons_zero, List.set_cons_succ]
    refine wpAnyH_take (i := 9) (oi := { dst := some 15, op := Op.fieldAddr 54 (Operand.tmp 3) 1, type := 0, pos := "l12_diffs.go:54", after := #[{ on := 7, ground := Ground.guard }], guard := some (7, true) }) (v := undef) rfl (by kernel_rfl) (by kernel_rfl) (by kernel_rfl) (fun _ _ _ h => h) (Or.inr ⟨by rfl, rfl⟩) (by assumption) ?_
    try simp only [Act.put, List.setIfInBounds_toArray, List.set_cons_zero, List.set_cons_succ]
    refine wpAnyH_take (i := 10) (oi := { dst := some 16, op := Op.load 9 (Operand.tmp 15), type := 9, pos := "l12_diffs.go:54", after := #[{ on := 9, ground := Ground.data }, { on := 7, ground := Ground.guard }], guard := some (7, true) }) (v := undef) rfl (by kernel_rfl) (by kernel_rfl) (by kernel_rfl) (fun _ _ _ h => h) (Or.inr ⟨by rfl, rfl⟩) (by assumption) ?_
    try simp only [Act.put, List.setIfInBounds_toArray, List.set_cons_zero, List.set_cons_succ]
    refine wpAnyH_take (i := 11) (oi := { dst := some 17, op := Op.call { callee := Callee.value (Operand.func 37), args := #[Operand.tmp 14, Operand.tmp 16], argTypes := #[31, 9] }, type := 4, pos := "l12_diffs.go:54", after := #[{ on := 8, ground := Ground.data }, { on := 10, ground := Ground.data }, { on := 7, ground := Ground.chain }, { on := 7, ground := Ground.guard }], guard := some (7, true) }) (v := undef) rfl (by kernel_rfl) (by kernel_rfl) (by kernel_rfl) (fun _ _ _ h => h) (Or.inr ⟨by rfl, rfl⟩) (by assumption) ?_
    try simp only [Act.put, List.setIfInBounds_toArray, List.set_cons_zero, List.set_cons_succ]
    refine wpAnyH_take (i := 12) (oi := { dst := some 18, op := Op.pick (Operand.tmp 13) (Operand.tmp 17) (Operand.const (Value.bool false)), type := 4, pos := "l12_diffs.go:54", after := #[{ on := 7, ground := Ground.data }, { on := 11, ground := Ground.data }, { on := 13, ground := Ground.gcOnly Departure.lateStores }], guard := none }) (v := .bool false) rfl (by kernel_rfl) (by kernel_rfl) (by kernel_rfl) (fun _ _ _ h => h) (Or.inl ⟨by rfl, ?_⟩) (by assumption) ?_
    · intro wS hSw
      try dsimp only at hSw
      go_simp
    try simp only [Act.put, List.setIfInBounds_toArray, List.set_cons_zero, List.set_cons_succ]
    refine wpAnyH_take (i := 13) (oi := { dst := some 4, op := Op.assign (Operand.tmp 8), type := 9, pos := "l12_diffs.go:54", after := #[{ on := 2, ground := Ground.data }, { on := 11, ground := Ground.chain }, { on := 0, ground := Ground.phase }, { on := 1, ground := Ground.phase }, { on := 2, ground := Ground.phase }, { on := 3, ground := Ground.textOnly Departure.lateStores }, { on := 4, ground := Ground.textOnly Departure.lateStores }, { on := 5, ground := Ground.textOnly Departure.lateStores }, { on := 6, ground := Ground.textOnly Departure.lateStores }, { on := 7, ground := Ground.textOnly Departure.lateStores }, { on := 8, ground := Ground.textOnly Departure.lateStores }, { on := 9, ground := Ground.textOnly Departure.lateStores }, { on := 10, ground := Ground.textOnly Departure.lateStores }, { on := 11, ground := Ground.textOnly Departure.lateStoresUnsure }, { on := 12, ground := Ground.textOnly Departure.lateStores }], guard := none }) (v := .string t.fName) rfl (by kernel_rfl) (by kernel_rfl) (by kernel_rfl) (fun _ _ _ h => h) (Or.inl ⟨by rfl, ?_⟩) (by assumption) ?_
    · intro wS hSw
      try dsimp only at hSw
      go_simp
    try simp only [Act.put, List.setIfInBounds_toArray, List.set_cons_zero, List.set_cons_succ]
    refine wpAnyH_take (i := 14) (oi := { dst := some 5, op := Op.assign (Operand.tmp 18), type := 4, pos := "l12_diffs.go:54", after := #[{ on := 12, ground := Ground.data }, { on := 13, ground := Ground.chain }, { on := 0, ground := Ground.phase }, { on := 1, ground := Ground.phase }, { on := 2, ground := Ground.phase }, { on := 3, ground := Ground.phase }, { on := 4, ground := Ground.phase }, { on := 5, ground := Ground.phase }, { on := 6, ground := Ground.phase }, { on := 7, ground := Ground.phase }, { on := 8, ground := Ground.phase }, { on := 9, ground := Ground.phase }, { on := 10, ground := Ground.phase }, { on := 11, ground := Ground.phase }, { on := 12, ground := Ground.phase }, { on := 13, ground := Ground.phase }], guard := none }) (v := .bool false) rfl (by kernel_rfl) (by kernel_rfl) (by kernel_rfl) (fun _ _ _ h => h) (Or.inl ⟨by rfl, ?_⟩) (by assumption) ?_
    · intro wS hSw
      try dsimp only at hSw
      go_simp
    try simp only [Act.put, List.setIfInBounds_toArray, List.set_cons_zero, List.set_cons_succ]
    refine wpAnyH_done (by kernel_rfl) ?_ _
    --TN>
    go_wp2_with fail
    go_ret2
    exact ⟨by rw [← Hq.out]; rfl, BC.out⟩

set_option maxHeartbeats 8000000 in
theorem iGatherTouch (l : List SeenD) (md : ByteArray) (a : Option Addr) (c : Nat) (a' : Option Addr) (c' : Nat) (cs : List ChangeD) (g1 g2 : Nat) (w : World) (hl : l.length ≤ 1048576) (hn : ∀ u ∈ l, u.fName.size ≤ 1048576) (hr : Rows seenS Any w a l) (hl' : cs.length ≤ 1048576) (hg1 : Box w g1 9 #[.string md]) (hg2 : Box w g2 31 #[.slice a' cs.length c']) (hr' : Rows changeS Any w a' cs) :
    Calls Try.prog 34 #[.slice a l.length c, .func (.func 35) #[] #[.pointer (some ⟨g1, 0, none⟩), .pointer (some ⟨g2, 0, none⟩)]] w fun e w' => ∃ v, e = .returned v ∧ OwnStrs w' w.heap.size v (touchL md cs l) ∧ Below w.heap.size w w' := by
  have Hr := Lib.hid hr
  have Hr' := Lib.hid hr'
  have Hn := Lib.hid hn
  have G1 := Lib.hid hg1
  have G2 := Lib.hid hg2
  clear hr hn hg1 hg2 hr'
  go_enter Try.func34, Try.ntmps34
  go_wp2_with fail
  go_loopw [12, 5] (fun i x wr => ∃ (k : Nat) (v : Value), i = .int .i64 k ∧ x = v ∧ k ≤ l.length ∧ OwnStrs wr w.heap.size v (touchL md cs (l.take k)) ∧ Below w.heap.size w wr) (fun i _ _ => l.length - (intOf i).toNat)
  case atStart => exact ⟨0, _, rfl, rfl, by omega, by rw [List.take_zero]; exact OwnStrs.nil, Below.refl _ _⟩
  case round =>
    obtain ⟨k, v, rfl, rfl, hk, hown, hbel⟩ := hrel
    have Hown := Lib.hid hown
    clear hown
    by_cases hlt : k < l.length
    · obtain ⟨b, o, hba, hb1, e0, e1, e2⟩ := seen_at Hr.out hlt hbel
      subst hba
      have hsz := hbel.size
      have hnk := Hn.out _ (List.getElem_mem hlt)
      have Hbel := Lib.hid (hbel.alloc hbel.size (.cells #[.string l[k].fMod, .string l[k].fName, .int .i64 l[k].fSum] 54))
      have Hown2 := Lib.hid (Hown.out.alloc (.cells #[.string l[k].fMod, .string l[k].fName, .int .i64 l[k].fSum] 54))
      have G3 := Lib.hid ((G1.out.below hbel G1.out.lt).alloc (.cells #[.string l[k].fMod, .string l[k].fName, .int .i64 l[k].fSum] 54))
      have G4 := Lib.hid ((G2.out.below hbel G2.out.lt).alloc (.cells #[.string l[k].fMod, .string l[k].fName, .int .i64 l[k].fSum] 54))
      have Hy := Lib.hid (touch_yes (md := md) (cs := cs) hlt)
      have Hno := Lib.hid (touch_no (md := md) (cs := cs) hlt)
      have R4 := Lib.hid (Hr'.out.below Hbel.out)
      have hlen : (touchL md cs (l.take k)).length ≤ k := touch_len
      clear hbel
      generalize l[k] = t at *
      by_cases hmk : t.fMod = md ∧ named cs t.fName
      · have Hy2 := Lib.hid (Hy.out hmk.1 hmk.2)
        have HC := Lib.hid (iTouchClo t md a' c' cs g1 g2 true _ hnk hl' G3.out G4.out R4.out (by rw [decide_eq_true hmk.1, namedB_true hmk.2]; rfl))
        clear hmk
        go_wp2_with fail
        refine HC.out.mono ?_
        rintro e w3 ⟨rfl, hb3⟩
        have B3 := Lib.hid (Hbel.out.trans (hb3.mono Hbel.out.size))
        have O3 := Lib.hid (Hown2.out.below hb3)
        have s3 := B3.out.size
        clear hb3
        go_wp2_with (at_builtin; refine wpList_pushStr rfl (.tmp 23) (.tmp 25) rfl w.heap.size _ _ (touchL md cs (l.take k)) rfl O3.out _ _ rfl (by simp) (by omega) (by omega) ?_)
        intro v' w4 hown4 hg4 hlt4
        have B4 := Lib.hid (B3.out.grown hg4 (by omega) (fun k hk => (hlt4 k hk).1))
        rw [← Hy2.out] at hown4
        have O4 := Lib.hid hown4
        clear hown4 hg4 hlt4
        go_wp2_with fail
        exact ⟨⟨k + 1, _, by congr 1, rfl, by omega, O4.out, B4.out⟩, by simp [intOf]; omega⟩
      · have Hn2 := Lib.hid (Hno.out hmk)
        have HC := Lib.hid (iTouchClo t md a' c' cs g1 g2 false _ hnk hl' G3.out G4.out R4.out (by
          by_cases h1 : t.fMod = md
          · rw [namedB_false (fun h => hmk ⟨h1, h⟩), Bool.and_false]
          · rw [decide_eq_false h1, Bool.false_and]))
        clear hmk
        go_wp2_with fail
        refine HC.out.mono ?_
        rintro e w3 ⟨rfl, hb3⟩
        have B3 := Lib.hid (Hbel.out.trans (hb3.mono Hbel.out.size))
        have O4 := Lib.hid (show OwnStrs w3 w.heap.size _ (touchL md cs (l.take (k + 1))) by rw [Hn2.out]; exact Hown2.out.below hb3)
        clear hb3
        go_wp2_with fail
        exact ⟨⟨k + 1, _, by congr 1, rfl, by omega, O4.out, B3.out⟩, by simp [intOf]; omega⟩
    · have hown2 := Hown.out
      rw [show k = l.length by omega, List.take_length] at hown2
      have O2 := Lib.hid hown2
      have Hbel := Lib.hid hbel
      clear hbel hown2
      go_wp2_with fail
      go_ret
      exact ⟨_, rfl, O2.out, Hbel.out⟩

set_option maxHeartbeats 8000000 in
theorem iTouch (a : Option Addr) (c : Nat) (l : List SeenD) (md : ByteArray) (a' : Option Addr) (c' : Nat) (cs : List ChangeD) (w : World) (hl : l.length ≤ 1048576) (hs : ∀ t ∈ l, t.fMod.size ≤ maxLen ∧ t.fName.size ≤ maxLen) (hr : Rows seenS Any w a l) (hmd : md.size ≤ maxLen) (hl' : cs.length ≤ 1048576) (hs' : ∀ t ∈ cs, t.fName.size ≤ maxLen) (hr' : Rows changeS Any w a' cs) :
    Calls Try.prog 11 #[.slice a l.length c, .string md, .slice a' cs.length c'] w (PostTB l md cs w) := by
  have hb0 := ((Below.refl w.heap.size w).alloc (Nat.le_refl _) (.cells #[.string md] 9)).alloc (by simp) (.cells #[.slice a' cs.length c'] 31)
  have B0 := Lib.hid hb0
  have Y0 := Lib.hid ((Box.new w 9 #[.string md]).alloc (.cells #[.slice a' cs.length c'] 31))
  have Z0 := Lib.hid (Box.new' (w.alloc (.cells #[.string md] 9)) 31 #[.slice a' cs.length c'] (g := w.heap.size + 1) (by simp))
  have H1 := Lib.hid (iGoodSeen a c l _ hl hs (hr.below hb0))
  have H2 := Lib.hid (fun W (hb : Below w.heap.size w W) => iAreChanges a' c' cs W hl' hs' (hr'.below hb))
  have Hr := Lib.hid hr
  have Hr' := Lib.hid hr'
  clear hs hr hs' hr' hb0
  go_enter Try.func11, Try.ntmps11
  go_wp2_with fail
  refine H1.out.mono ?_
  rintro e w1 ⟨rfl, hb1⟩
  have B1 := Lib.hid (B0.out.trans (hb1.mono B0.out.size))
  have Y1 := Lib.hid (Y0.out.below hb1 Y0.out.lt)
  have Z1 := Lib.hid (Z0.out.below hb1 Z0.out.lt)
  have H3 := Lib.hid (H2.out w1 B1.out)
  clear hb1 H1 H2
  have y1 : _ = some (Value.string md) := Y1.out.cell 0
  have z1 : _ = some (Value.slice a' cs.length c') := Z1.out.cell 0
  by_cases p1 : seenP l
  · have q1 := seenB_true p1
    by_cases p2 : nameP md
    · have q2 := nameB_true p2
      by_cases p3 : chgP cs
      · have q3 := chgB_true p3
        have P := Lib.hid (show touchP l md cs from ⟨p1, p2, p3⟩)
        have Hn := Lib.hid (show ∀ u ∈ l, u.fName.size ≤ 1048576 from fun u hu => by
          obtain ⟨i, hi, rfl⟩ := List.getElem_of_mem hu
          have := (p1.2.1 i hi hi).2.1.2.1
          omega)
        clear p1 p2 p3
        go_wp2_with (first
          | (go_at_call 32; refine (iGoodName _ _ hmd).mono ?_; rintro e w' ⟨rfl, rfl⟩)
          | (go_at_call 33; refine H3.out.mono ?_; rintro e w2 ⟨rfl, hb2⟩; have B2 := Lib.hid (B1.out.trans (hb2.mono B1.out.size)); have Y2 := Lib.hid (Y1.out.below hb2 Y1.out.lt); have Z2 := Lib.hid (Z1.out.below hb2 Z1.out.lt); clear hb2))
        refine (iGatherTouch l md a c a' c' cs w.heap.size (w.heap.size + 1) _ hl Hn.out (Hr.out.below B2.out) hl' Y2.out Z2.out (Hr'.out.below B2.out)).mono ?_
        rintro e w3 ⟨v, rfl, hown, hb3⟩
        have O3 := Lib.hid (hown.lower B2.out.size)
        have B3 := Lib.hid (B2.out.trans (hb3.mono B2.out.size))
        clear hown hb3
        go_wp2_with fail
        go_ret2
        unfold PostTB
        exact ⟨_, _, true, rfl, O3.out, .inl ⟨P.out, rfl, rfl⟩, B3.out⟩
      · have q3 := chgB_false p3
        have P := Lib.hid (show ¬ touchP l md cs from fun h => p3 h.2.2)
        clear p1 p2 p3
        go_wp2_with (first
          | (go_at_call 32; refine (iGoodName _ _ hmd).mono ?_; rintro e w' ⟨rfl, rfl⟩)
          | (go_at_call 33; refine H3.out.mono ?_; rintro e w2 ⟨rfl, hb2⟩; have B2 := Lib.hid (B1.out.trans (hb2.mono B1.out.size)); clear hb2))
        go_ret2
        unfold PostTB
        exact ⟨_, [], false, rfl, OwnStrs.nil, .inr ⟨P.out, rfl, rfl⟩, B2.out⟩
    · have q2 := nameB_false p2
      have P := Lib.hid (show ¬ touchP l md cs from fun h => p2 h.2.1)
      clear p1 p2
      go_wp2_with (go_at_call 32; refine (iGoodName _ _ hmd).mono ?_; rintro e w' ⟨rfl, rfl⟩)
      go_ret2
      unfold PostTB
      exact ⟨_, [], false, rfl, OwnStrs.nil, .inr ⟨P.out, rfl, rfl⟩, B1.out⟩
  · have q1 := seenB_false p1
    have P := Lib.hid (show ¬ touchP l md cs from fun h => p1 h.1)
    clear p1
    go_wp2_with fail
    go_ret2
    unfold PostTB
    exact ⟨_, [], false, rfl, OwnStrs.nil, .inr ⟨P.out, rfl, rfl⟩, B1.out⟩
end Go.Proofs.Ytkhlekpkggglpaa
