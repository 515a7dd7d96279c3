
/-
  What is proved: changes as words; contracts of DiffText, the program's and the model's. No condition beside what each theorem states.
-/
import Derived.Test.YtkhlekpkggglpaaChgG
import Derived.Test.YtkhlekpkggglpaaUnlike
import Derived.Test.YtkhlekpkggglpaaShelf
import Derived.Deep.RegionHeld3
namespace Go.Proofs.Ytkhlekpkggglpaa
open Go.ChangeShapes Go.WideShapes Go.ChangeAt Go.RowKit
set_option maxRecDepth 100000

def signZ (k : Int) : ByteArray := if k = 1 then ⟨#[43]⟩ else if k = 2 then ⟨#[45]⟩ else ⟨#[33]⟩
theorem signZ_size (k : Int) : (signZ k).size = 1 := by unfold signZ; split; rfl; split <;> rfl
def wordZ (t : ChangeD) : ByteArray := signZ t.fKind ++ t.fName
theorem wordZ_size (t : ChangeD) : (wordZ t).size = t.fName.size + 1 := by unfold wordZ; rw [ByteArray.size_append, signZ_size]; omega
/-- Words with a blank between. -/
def joinZ (ws : List ByteArray) : ByteArray := ⟨(Lib.join (ws.map (·.data.toList)) [32]).toArray⟩
theorem joinZ_nil : joinZ [] = ⟨#[]⟩ := rfl
theorem joinZ_one (x : ByteArray) : joinZ [x] = x := by
  unfold joinZ
  rw [List.map_cons, List.map_nil, Lib.join_one]
theorem joinZ_more {ws : List ByteArray} {k : Nat} (h0 : 0 < k) (hk : k < ws.length) : joinZ (ws.take (k + 1)) = joinZ (ws.take k) ++ ⟨#[32]⟩ ++ ws[k] := by
  match ws, hk with
  | x :: r, hk =>
    obtain ⟨q, rfl⟩ : ∃ q, k = q + 1 := ⟨k - 1, by omega⟩
    have hq : q < r.length := by simpa using hk
    have hj := Lib.joinTail_take_succ [32] (r.map (·.data.toList)) q r[q].data.toList (by simp [hq])
    apply ByteArray.ext
    apply Array.ext'
    unfold joinZ
    simp only [List.take_succ_cons, List.map_cons, Lib.join_cons, List.map_take, ByteArray.data_append, Array.toList_append, hj, List.append_assoc, List.getElem_cons_succ]
theorem joinZ_first {ws : List ByteArray} (h : 0 < ws.length) : joinZ (ws.take 1) = ws[0] := by
  match ws, h with
  | x :: r, _ => exact joinZ_one x
theorem lens_le (ws : List ByteArray) (n : Nat) (h : ∀ x ∈ ws, x.size ≤ n) : Lib.lens (ws.map (·.data.toList)) ≤ ws.length * n := by
  induction ws with
  | nil => simp [Lib.lens]
  | cons x r ih =>
    have h1 := ih (fun y hy => h y (List.mem_cons_of_mem _ hy))
    have h2 := h x (List.mem_cons_self ..)
    simp only [Lib.lens, List.map_cons, List.sum_cons, List.length_cons, Nat.add_mul] at h1 ⊢
    have h3 : x.data.toList.length = x.size := rfl
    omega
theorem join_len_le : ∀ (ws : List ByteArray) (n : Nat), (∀ x ∈ ws, x.size ≤ n) → (joinZ ws).size ≤ ws.length * (n + 1) := by
  intro ws n h
  unfold joinZ
  rw [show (⟨(Lib.join (ws.map (·.data.toList)) [32]).toArray⟩ : ByteArray).size = (Lib.join (ws.map (·.data.toList)) [32]).length from by show Array.size _ = _; rw [List.size_toArray]]
  have hl := lens_le ws n h
  cases ws with
  | nil => simp [Lib.join_nil]
  | cons x r =>
    rw [List.map_cons, Lib.join_length]
    rw [List.map_cons] at hl
    simp only [List.length_cons, List.length_map, List.length_nil, Nat.mul_add, Nat.mul_one] at *
    omega
/-- Changes as a text. -/
def textZ (l : List ChangeD) : ByteArray := joinZ (l.map wordZ)
theorem text_size {l : List ChangeD} (h : chgP l) (k : Nat) : (textZ (l.take k)).size ≤ 400 := by
  have h1 := join_len_le ((l.take k).map wordZ) 11 (fun x hx => by
    obtain ⟨t, ht, rfl⟩ := List.mem_map.1 hx
    obtain ⟨i, hi, rfl⟩ := List.getElem_of_mem (List.mem_of_mem_take ht)
    have := (h.2 i hi hi).1.1.2.1
    rw [wordZ_size]
    omega)
  have h2 := h.1
  have h3 : ((l.take k).map wordZ).length ≤ 32 := by simp; omega
  have h4 := Nat.mul_le_mul_right 12 h3
  unfold textZ
  omega
theorem text_zero {l : List ChangeD} : textZ (l.take 0) = ⟨#[]⟩ := rfl
theorem text_first {l : List ChangeD} (h : 0 < l.length) : textZ (l.take (0 + 1)) = wordZ l[0] := by
  unfold textZ
  rw [List.map_take]
  rw [show 0 + 1 = 1 from rfl, joinZ_first (by simpa using h), List.getElem_map]
theorem text_more {l : List ChangeD} {k : Nat} (h0 : 0 < k) (hk : k < l.length) : textZ (l.take (k + 1)) = textZ (l.take k) ++ ⟨#[32]⟩ ++ wordZ l[k] := by
  unfold textZ
  rw [List.map_take, List.map_take, joinZ_more h0 (by simpa using hk), List.getElem_map]

theorem nil_cat (x : ByteArray) : ⟨#[]⟩ ++ x = x := by
  apply ByteArray.ext
  simp [ByteArray.data_append]
theorem cutSign {k : Int} (h1 : 1 ≤ k) (h3 : k ≤ 3) (W : World) : (Instr.slice 9 (.string ⟨#[63, 43, 45, 33]⟩) (some (.int .i64 k)) (some (.int .i64 (k + 1))) none).run Try.prog W = .ok (.string (signZ k)) W := by
  rcases (show k = 1 ∨ k = 2 ∨ k = 3 by omega) with rfl | rfl | rfl <;> kernel_rfl

set_option maxHeartbeats 8000000 in
theorem sl12Text (a : Option Addr) (c : Nat) (l : List ChangeD) (w : World) (hp : chgP l) (hr : Rows changeS Any w a l) :
    Calls Try.prog 41 #[.slice a l.length c] w fun e w' => e = .returned (.string (textZ l)) ∧ Below w.heap.size w w' := by
  have Hr := Lib.hid hr
  have Hp := Lib.hid hp
  have h32 := hp.1
  have Hsz := Lib.hid (text_size hp)
  clear hr hp
  go_enter Try.func41, Try.ntmps41
  go_wp2_with fail
  go_loopw [8, 3] (fun i s wr => ∃ k : Nat, i = .int .i64 k ∧ k ≤ l.length ∧ s = .string (textZ (l.take k)) ∧ Below w.heap.size w wr) (fun i _ _ => l.length - (intOf i).toNat)
  case atStart => exact ⟨0, rfl, by omega, rfl, Below.refl _ _⟩
  case round =>
    obtain ⟨k, rfl, hk, rfl, hbel⟩ := hrel
    by_cases hlt : k < l.length
    · obtain ⟨b, o, hba, hb1, e0, e1⟩ := chg_at Hr.out hlt hbel
      subst hba
      have hsz := hbel.size
      have X0 := Lib.hid (Box.new wr 55 #[.string l[k].fName, .int .i64 l[k].fKind])
      have B0 := Lib.hid (hbel.alloc hsz (.cells #[.string l[k].fName, .int .i64 l[k].fKind] 55))
      have hok := (Hp.out.2 k hlt hlt).1
      have hcut := cutSign hok.2.1 hok.2.2
      have hn1 := hok.1.2.1
      have hk1 := hok.2.1
      have hk3 := hok.2.2
      have hS := Hsz.out k
      have hsg := signZ_size l[k].fKind
      have Hf := Lib.hid (show k = 0 → textZ (l.take (k + 1)) = ⟨#[]⟩ ++ (signZ l[k].fKind ++ l[k].fName) from fun h => by subst h; rw [text_first hlt]; exact (nil_cat _).symm)
      have Hm := Lib.hid (show 0 < k → textZ (l.take (k + 1)) = textZ (l.take k) ++ ⟨#[32]⟩ ++ (signZ l[k].fKind ++ l[k].fName) from fun h => text_more h hlt)
      have Hz := Lib.hid (show k = 0 → textZ (l.take k) = ⟨#[]⟩ from fun h => by subst h; rfl)
      have iw : IntKind.i64.wrap (l[k].fKind + 1) = l[k].fKind + 1 := IntWalk.i64_in _ (by omega)
      clear hbel hok
      generalize signZ l[k].fKind = sg at *
      generalize l[k] = f at *
      generalize textZ (l.take k) = S at *
      have x0 : _ = some (Value.string f.fName) := X0.out.cell 0
      have x1 : _ = some (Value.int .i64 f.fKind) := X0.out.cell 1
      have q1 : ¬ 9223372036854775807 < sg.size + f.fName.size := by omega
      have q2 : ¬ 9223372036854775807 < S.size + (sg ++ f.fName).size := by rw [ByteArray.size_append]; omega
      have q3 : ¬ 9223372036854775807 < S.size + (⟨#[32]⟩ : ByteArray).size := by show ¬ 9223372036854775807 < S.size + 1; omega
      have q4 : ¬ 9223372036854775807 < (S ++ ⟨#[32]⟩).size + (sg ++ f.fName).size := by rw [ByteArray.size_append, ByteArray.size_append]; show ¬ 9223372036854775807 < S.size + 1 + _; omega
      by_cases h0 : 0 < k
      · have Hv := Lib.hid (Hm.out h0)
        have h0' : (0 : Int) < (k : Int) := by omega
        go_wp2_with fail
        go_region
        go_wp2_with fail
        exact ⟨⟨k + 1, by congr 1, by omega, by rw [Hv.out], belowN B0.out 1⟩, by simp [intOf]; omega⟩
      · have h0' : ¬ (0 : Int) < (k : Int) := by omega
        obtain rfl := Hz.out (by omega)
        have Hv := Lib.hid (Hf.out (by omega))
        go_wp2_with fail
        go_region
        go_wp2_with fail
        exact ⟨⟨k + 1, by congr 1, by omega, by rw [Hv.out], belowN B0.out 1⟩, by simp [intOf]; omega⟩
    · obtain rfl : k = l.length := by omega
      rw [List.take_length]
      have Hbel := Lib.hid hbel
      clear hbel
      go_wp2_with fail
      go_ret
      exact ⟨rfl, Hbel.out⟩

/-! The program's side. -/
theorem signAt {k : Int} (h1 : 1 ≤ k) (h3 : k ≤ 3) : ∃ b : Int, (∀ W, (Instr.index 9 (.string ⟨#[43, 45, 33]⟩) (.int .i64 (k - 1))).run Try.prog W = .ok (.int .u8 b) W) ∧ ∀ W2, (convert 5 9 (.int .u8 b)).run Try.prog W2 = .ok (.string (signZ k)) W2 := by
  rcases (show k = 1 ∨ k = 2 ∨ k = 3 by omega) with rfl | rfl | rfl
  · exact ⟨43, fun _ => by kernel_rfl, fun _ => by kernel_rfl⟩
  · exact ⟨45, fun _ => by kernel_rfl, fun _ => by kernel_rfl⟩
  · exact ⟨33, fun _ => by kernel_rfl, fun _ => by kernel_rfl⟩
set_option maxHeartbeats 8000000 in
theorem iWordOf (t : ChangeD) (w : World) (hok : chgOk t) : Calls Try.prog 44 #[.agg #[.string t.fName, .int .i64 t.fKind]] w fun e w' => e = .returned (.tuple #[.string (wordZ t), .bool true]) ∧ Below w.heap.size w w' := by
  have X0 := Lib.hid (Box.new w 55 #[.string t.fName, .int .i64 t.fKind])
  have B0 := Lib.hid ((Below.refl w.heap.size w).alloc (Nat.le_refl _) (.cells #[.string t.fName, .int .i64 t.fKind] 55))
  have Hv := Lib.hid (show wordZ t = signZ t.fKind ++ t.fName from rfl)
  have x0 : _ = some (Value.string t.fName) := X0.out.cell 0
  have x1 : _ = some (Value.int .i64 t.fKind) := X0.out.cell 1
  obtain ⟨h1, h2, h3⟩ := hok
  have hn := h1.2.1
  have hsg := signZ_size t.fKind
  obtain ⟨sb, hat1, hat2⟩ := signAt h2 h3
  have iw : IntKind.i64.wrap (t.fKind - 1) = t.fKind - 1 := IntWalk.i64_in _ (by omega)
  generalize signZ t.fKind = sg at *
  clear h1
  have q1 : ¬ 9223372036854775807 < sg.size + t.fName.size := by omega
  go_enter Try.func44, Try.ntmps44
  go_wp2_with fail
  go_region
  go_wp2_with fail
  go_ret2
  exact ⟨by rw [Hv.out]; rfl, belowN B0.out 1⟩
theorem words_take {l : List ChangeD} {k : Nat} (hk : k < l.length) : (l.take (k + 1)).map wordZ = (l.take k).map wordZ ++ [wordZ l[k]] := by
  rw [List.take_succ_eq_append_getElem hk, List.map_append]
  rfl
set_option maxHeartbeats 8000000 in
theorem iGatherWords (a : Option Addr) (c : Nat) (l : List ChangeD) (w : World) (hp : chgP l) (hr : Rows changeS Any w a l) :
    Calls Try.prog 43 #[.slice a l.length c, .func (.func 44) #[] #[]] w fun e w' => ∃ v, e = .returned v ∧ OwnStrs w' w.heap.size v (l.map wordZ) ∧ Below w.heap.size w w' := by
  have Hr := Lib.hid hr
  have Hp := Lib.hid hp
  have h32 := hp.1
  clear hr hp
  go_enter Try.func43, Try.ntmps43
  go_wp2_with fail
  go_loopw [12, 5] (fun i x wr => ∃ (k : Nat) (v : Value), i = .int .i64 k ∧ x = v ∧ k ≤ l.length ∧ OwnStrs wr w.heap.size v ((l.take k).map wordZ) ∧ Below w.heap.size w wr) (fun i _ _ => l.length - (intOf i).toNat)
  case atStart => exact ⟨0, _, rfl, rfl, by omega, by rw [List.take_zero]; exact OwnStrs.nil, Below.refl _ _⟩
  case round =>
    obtain ⟨k, v, rfl, rfl, hk, hown, hbel⟩ := hrel
    have Hown := Lib.hid hown
    clear hown
    by_cases hlt : k < l.length
    · obtain ⟨b, o, hba, hb1, e0, e1⟩ := chg_at Hr.out hlt hbel
      subst hba
      have hsz := hbel.size
      have Hok := Lib.hid (Hp.out.2 k hlt hlt).1
      have Hbel := Lib.hid (hbel.alloc hbel.size (.cells #[.string l[k].fName, .int .i64 l[k].fKind] 55))
      have Hown2 := Lib.hid (Hown.out.alloc (.cells #[.string l[k].fName, .int .i64 l[k].fKind] 55))
      have Hy := Lib.hid (words_take hlt)
      have hlen : ((l.take k).map wordZ).length ≤ k := by simp; omega
      clear hbel
      generalize l[k] = t at *
      generalize (l.take k).map wordZ = ws at *
      go_wp2_with fail
      refine (iWordOf t _ Hok.out).mono ?_
      rintro e w3 ⟨rfl, hb3⟩
      have B3 := Lib.hid (Hbel.out.trans (hb3.mono Hbel.out.size))
      have O3 := Lib.hid (Hown2.out.below hb3)
      have s3 := B3.out.size
      clear hb3
      go_wp2_with (at_builtin; refine wpList_pushStr rfl (.tmp 23) (.tmp 25) rfl w.heap.size _ _ ws rfl O3.out _ _ rfl (by simp) (by omega) (by omega) ?_)
      intro v' w4 hown4 hg4 hlt4
      have B4 := Lib.hid (B3.out.grown hg4 (by omega) (fun k hk => (hlt4 k hk).1))
      rw [← Hy.out] at hown4
      have O4 := Lib.hid hown4
      clear hown4 hg4 hlt4
      go_wp2_with fail
      exact ⟨⟨k + 1, _, by congr 1, rfl, by omega, O4.out, B4.out⟩, by simp [intOf]; omega⟩
    · have hown2 := Hown.out
      rw [show k = l.length by omega, List.take_length] at hown2
      have O2 := Lib.hid hown2
      have Hbel := Lib.hid hbel
      clear hbel hown2
      go_wp2_with fail
      go_ret
      exact ⟨_, rfl, O2.out, Hbel.out⟩
/-- strings.Join at a blank. -/
theorem iJoin (a : Option Addr) (c : Nat) (ws : List ByteArray) (w : World) (hc : ws.length ≤ c) (hl : ws.length ≤ 1000) (hn : ∀ x ∈ ws, x.size ≤ 1000) (hr : Rows strS Any w a ws) :
    Calls Try.prog 42 #[.slice a ws.length c, .string ⟨#[32]⟩] w fun e w' => e = .returned (.string (joinZ ws)) ∧ Below w.heap.size w w' := by
  by_cases h0 : ws.length = 0
  · obtain rfl : ws = [] := List.eq_nil_of_length_eq_zero h0
    refine (Try.strings_Join_none a c ⟨#[32]⟩ w).mono ?_
    rintro e w' ⟨rfl, rfl⟩
    exact ⟨rfl, Below.refl _ _⟩
  · obtain ⟨b, o, cs, rfl, _, hb, _, _⟩ := hr 0 (by omega)
    have hj := join_len_le ws 1000 hn
    have hm := Nat.mul_le_mul_right (1000 + 1) hl
    refine (Try.strings_Join b o c ws ⟨#[32]⟩ w (fun j x hx => ?_) hb (by omega) hc ?_).mono ?_
    · obtain ⟨hj', rfl⟩ := List.getElem?_eq_some_iff.1 hx
      obtain ⟨b', o', cs', hba, _, _, hcs, hat⟩ := hr j hj'
      injection hba with hba
      injection hba with e1 e2
      subst e1 e2
      obtain rfl : cs' = [.string ws[j]] := hat
      have := hcs 0 (by decide)
      rw [show strS.n = 1 from rfl, Nat.mul_one, Nat.add_zero] at this
      exact this
    · have : (joinZ ws).size = (Lib.join (ws.map (·.data.toList)) [32]).length := by unfold joinZ; show Array.size _ = _; rw [List.size_toArray]
      show (Lib.join (ws.map (·.data.toList)) [32]).length ≤ _
      omega
    · rintro e w' ⟨rfl, hb⟩
      exact ⟨rfl, hb⟩
open Classical in
noncomputable def diffT (l : List ChangeD) : ByteArray := if chgP l then textZ l else ByteArray.empty
theorem diffT_yes {l : List ChangeD} (h : chgP l) : diffT l = textZ l := by unfold diffT; rw [if_pos h]
theorem diffT_no {l : List ChangeD} (h : ¬ chgP l) : diffT l = ByteArray.empty := by unfold diffT; rw [if_neg h]

set_option maxHeartbeats 4000000 in
theorem sDiffText (a : Option Addr) (c : Nat) (l : List ChangeD) (w : World) (hl : l.length ≤ 1048576) (hc : l.length ≤ c) (hc2 : c ≤ maxLen) (hs : ∀ t ∈ l, t.fName.size ≤ maxLen) (hr : Rows changeS Any w a l) :
    Calls Try.prog 19 #[.slice a l.length c] w fun e w' => e = .returned (.tuple #[.string (diffT l), .bool (chgB l)]) ∧ Below w.heap.size w w' := by
  have Hr := Lib.hid hr
  have H := Lib.hid (sl12Good a c l w hl hc hc2 hs hr)
  clear hs hr
  go_enter Try.func19, Try.ntmps19
  go_wp2_with fail
  refine H.out.mono ?_
  rintro e w1 ⟨rfl, hb1⟩
  have B1 := Lib.hid hb1
  have R1 := Lib.hid (Hr.out.below hb1)
  clear hb1 H
  by_cases hp : chgP l
  · have hq := chgB_true hp
    have Hz := Lib.hid (diffT_yes hp)
    have Hq := Lib.hid hq
    have HL := Lib.hid (sl12Text a c l w1 hp R1.out)
    clear hp
    go_wp2_with fail
    refine HL.out.mono ?_
    rintro e w2 ⟨rfl, hb2⟩
    go_wp2_with fail
    go_ret2
    exact ⟨by rw [Hz.out, Hq.out]; rfl, B1.out.trans (hb2.mono B1.out.size)⟩
  · have hq := chgB_false hp
    have Hz := Lib.hid (diffT_no hp)
    have Hq := Lib.hid hq
    clear hp
    go_wp2_with fail
    go_ret2
    exact ⟨by rw [Hz.out, Hq.out]; rfl, B1.out⟩
set_option maxHeartbeats 4000000 in
theorem iDiffText (a : Option Addr) (c : Nat) (l : List ChangeD) (w : World) (hl : l.length ≤ 1048576) (hs : ∀ t ∈ l, t.fName.size ≤ maxLen) (hr : Rows changeS Any w a l) :
    Calls Try.prog 20 #[.slice a l.length c] w fun e w' => e = .returned (.tuple #[.string (diffT l), .bool (chgB l)]) ∧ Below w.heap.size w w' := by
  have Hr := Lib.hid hr
  have H := Lib.hid (iAreChanges a c l w hl hs hr)
  clear hs hr
  go_enter Try.func20, Try.ntmps20
  go_wp2_with fail
  refine H.out.mono ?_
  rintro e w1 ⟨rfl, hb1⟩
  have B1 := Lib.hid hb1
  have R1 := Lib.hid (Hr.out.below hb1)
  clear hb1 H
  by_cases hp : chgP l
  · have hq := chgB_true hp
    have Hz := Lib.hid (diffT_yes hp)
    have Hq := Lib.hid hq
    have h32 := hp.1
    have HL := Lib.hid (iGatherWords a c l w1 hp R1.out)
    have Hw := Lib.hid (show ∀ x ∈ l.map wordZ, x.size ≤ 1000 from fun x hx => by
      obtain ⟨t, ht, rfl⟩ := List.mem_map.1 hx
      obtain ⟨i, hi, rfl⟩ := List.getElem_of_mem ht
      have := (hp.2 i hi hi).1.1.2.1
      rw [wordZ_size]
      omega)
    clear hp
    go_wp2_with fail
    refine HL.out.mono ?_
    rintro e w2 ⟨v, rfl, hown, hb2⟩
    obtain ⟨a2, c2, rfl, hc2, _, _, hrw⟩ := hown.rows
    have HJ := Lib.hid (iJoin a2 c2 (l.map wordZ) w2 hc2 (by simp; omega) Hw.out hrw.any)
    rw [List.length_map] at HJ
    have B2 := Lib.hid (B1.out.trans (hb2.mono B1.out.size))
    clear hown hrw hb2 HL
    rw [List.length_map]
    go_wp2_with fail
    refine HJ.out.mono ?_
    rintro e w3 ⟨rfl, hb3⟩
    go_wp2_with fail
    go_ret2
    exact ⟨by rw [Hz.out, Hq.out]; rfl, B2.out.trans (hb3.mono B2.out.size)⟩
  · have hq := chgB_false hp
    have Hz := Lib.hid (diffT_no hp)
    have Hq := Lib.hid hq
    clear hp
    go_wp2_with fail
    go_ret2
    exact ⟨by rw [Hz.out, Hq.out]; rfl, B1.out⟩
end Go.Proofs.Ytkhlekpkggglpaa
