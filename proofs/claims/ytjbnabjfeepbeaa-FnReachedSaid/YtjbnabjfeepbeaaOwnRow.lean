
/-
  What is proved: rows of structs that the call owns, whatever these lead to: append on them, one of them set. No program is named here; no condition beside what each theorem states.
-/
import Derived.Test.YtjbnabjfeepbeaaMem
import Derived.Test.YtjbnabjfeepbeaaMark
import Derived.Test.YtjbnabjfeepbeaaLike
import Derived.Maps.AppendAt
namespace Go.Proofs.Ytjbnabjfeepbeaa
open Go.RowKit Go.ChangeShapes Go.WideShapes Go.ChangeAt

/-- Elements in a row that the call owns; what they lead to lies in blocks of P, not in the row's own one. -/
def OwnG {T : Type} (S : Shape T) (e : TypeId) (B : Nat) (P : Nat → Prop) (w : World) (v : Value) (l : List T) : Prop :=
  (v = .slice none 0 0 ∧ l = []) ∨ ∃ b cap cur, v = .slice (some ⟨b, 0, none⟩) l.length cap ∧ B ≤ b ∧ Box w b e cur ∧ l.length ≤ cap ∧ cap ≤ maxLen ∧ cur.size = cap * S.n ∧ FilledO S (fun q => P q ∧ q ≠ b) w cur 0 l l.length
theorem ownBlock_slice (b n c : Nat) : (Value.slice (some ⟨b, 0, none⟩) n c).ownBlock = some b := by simp [Value.ownBlock]
theorem putL_far : ∀ (cs : List Value) (arr : Array Value) (p x : Nat), p + cs.length ≤ x → (putL arr p cs)[x]? = arr[x]?
  | [], _, _, _, _ => rfl
  | c :: cs, arr, p, x, h => by
    simp only [List.length_cons] at h
    rw [putL, putL_far cs _ _ _ (by omega), Array.getElem?_setIfInBounds, if_neg (by omega)]
section
variable {T : Type} {S : Shape T} {e : TypeId} {B : Nat} {P : Nat → Prop} {w w' : World} {v : Value} {l : List T}
theorem OwnG.nil : OwnG S e B P w (.slice none 0 0) [] := .inl ⟨rfl, rfl⟩
theorem OwnG.lt (h : OwnG S e B P w v l) : ∀ k, v.ownBlock = some k → B ≤ k ∧ k < w.heap.size := fun k hk => by
  rcases h with ⟨rfl, _⟩ | ⟨b, cap, cur, rfl, h1, h2, _⟩
  · simp [Value.ownBlock] at hk
  · rw [ownBlock_slice] at hk
    injection hk with hk
    subst hk
    exact ⟨h1, h2.lt⟩
theorem OwnG.keep (h : OwnG S e B P w v l) (hk : ∀ q, P q ∨ v.ownBlock = some q → q < w.heap.size → w'.heap[q]? = w.heap[q]?) (hs : w.heap.size ≤ w'.heap.size) : OwnG S e B P w' v l :=
  h.imp id fun ⟨b, cap, cur, h1, h2, h3, h4, h5, h6, h7⟩ => ⟨b, cap, cur, h1, h2, (hk b (.inr (by rw [h1, ownBlock_slice])) h3.lt).trans h3, h4, h5, h6, h7.keep (fun q hq hl => hk q (.inl hq.1) hl) hs⟩
theorem OwnG.below (h : OwnG S e B P w v l) (hb : Below w.heap.size w w') : OwnG S e B P w' v l := h.keep (fun q _ hl => hb.block q hl) hb.size
theorem OwnG.alloc (h : OwnG S e B P w v l) (o : Obj) : OwnG S e B P (w.alloc o) v l := h.below ((Below.refl _ _).alloc (Nat.le_refl _) o)
theorem OwnG.lower {B' : Nat} (h : OwnG S e B P w v l) (hB : B' ≤ B) : OwnG S e B' P w v l :=
  h.imp id fun ⟨b, cap, cur, h1, h2, h3⟩ => ⟨b, cap, cur, h1, Nat.le_trans hB h2, h3⟩
theorem FilledO.mono {Q Q' : Nat → Prop} {arr : Array Value} {o k : Nat} (h : FilledO S Q w arr o l k) (hq : ∀ b, Q b → b < w.heap.size → Q' b) : FilledO S Q' w arr o l k := fun i hi hk => by
  obtain ⟨cs, h1, h2⟩ := h i hi hk
  exact ⟨cs, S.mono h1 hq, h2⟩
theorem OwnG.mono {P' : Nat → Prop} (h : OwnG S e B P w v l) (hp : ∀ q, P q → q < w.heap.size → P' q) : OwnG S e B P' w v l :=
  h.imp id fun ⟨b, cap, cur, h1, h2, h3, h4, h5, h6, h7⟩ => ⟨b, cap, cur, h1, h2, h3, h4, h5, h6, h7.mono (fun q hq hl => ⟨hp q hq.1 hl, hq.2⟩)⟩
theorem OwnG.rows {Q : Nat → Prop} (h : OwnG S e B P w v l) (hp : ∀ q, P q → q < w.heap.size → Q q) (hv : ∀ q, v.ownBlock = some q → Q q) : ∃ a c, v = .slice a l.length c ∧ l.length ≤ c ∧ c ≤ maxLen ∧ Rows S Q w a l := by
  rcases h with ⟨rfl, rfl⟩ | ⟨b, cap, cur, rfl, h2, h3, h4, h5, h6, h7⟩
  · exact ⟨none, 0, rfl, Nat.le_refl _, Nat.zero_le _, Rows.nil⟩
  · exact ⟨_, cap, rfl, h4, h5, (h7.mono (fun q hq hl => hp q hq.1 hl)).rows h3 (hv b (ownBlock_slice _ _ _))⟩
/-- Its cells, as append takes them. -/
theorem OwnG.row (h : OwnG S e B P w v l) : ∃ xs, w.ownsRow B e S.n v l.length xs ∧ ∀ i (hi : i < l.length), ∃ cs, S.At (fun q => P q ∧ v.ownBlock ≠ some q) w cs l[i] ∧ ∀ j, j < S.n → xs[i * S.n + j]? = cs[j]? := by
  rcases h with ⟨rfl, rfl⟩ | ⟨b, cap, cur, rfl, h2, h3, h4, h5, h6, h7⟩
  · exact ⟨[], World.ownsRow_nil _ _ _ _, fun i hi => absurd hi (by simp)⟩
  · have hle : l.length * S.n ≤ cur.size := by rw [h6]; exact Nat.mul_le_mul_right _ h4
    refine ⟨cur.toList.take (l.length * S.n), ⟨by simp; omega, .inr ⟨b, cap, cur, rfl, h2, h3, h4, h5, h6, rfl⟩⟩, fun i hi => ?_⟩
    obtain ⟨cs, c1, c2⟩ := h7 i hi hi
    refine ⟨cs, S.mono c1 (fun q hq _ => ⟨hq.1, fun hh => hq.2 (by rw [ownBlock_slice] at hh; injection hh with hh; exact hh.symm)⟩), fun j hj => ?_⟩
    have hlt : i * S.n + j < l.length * S.n := by
      have := Nat.mul_le_mul_right S.n (show i + 1 ≤ l.length by omega)
      rw [Nat.add_mul] at this
      omega
    rw [List.getElem?_take, if_pos hlt, ← c2 j hj]
    simp
theorem OwnG.of_row {xs : List Value} (h : w.ownsRow B e S.n v l.length xs) (hx : ∀ i (hi : i < l.length), ∃ cs, S.At (fun q => P q ∧ v.ownBlock ≠ some q) w cs l[i] ∧ ∀ j, j < S.n → xs[i * S.n + j]? = cs[j]?) : OwnG S e B P w v l := by
  rcases h.2 with ⟨rfl, h0⟩ | ⟨b, cap, cur, rfl, hb, hg, hc, hm, hs, ht⟩
  · exact .inl ⟨rfl, List.eq_nil_of_length_eq_zero h0⟩
  · refine .inr ⟨b, cap, cur, rfl, hb, hg, hc, hm, hs, fun i hi _ => ?_⟩
    obtain ⟨cs, c1, c2⟩ := hx i hi
    refine ⟨cs, S.mono c1 (fun q hq _ => ⟨hq.1, fun hh => hq.2 (by rw [ownBlock_slice, hh])⟩), fun j hj => ?_⟩
    have hlt : i * S.n + j < l.length * S.n := by
      have := Nat.mul_le_mul_right S.n (show i + 1 ≤ l.length by omega)
      rw [Nat.add_mul] at this
      omega
    rw [← c2 j hj, ← ht, List.getElem?_take, if_pos hlt]
    simp
/-- One more behind them. -/
theorem OwnG.pushed {v' : Value} {xs cs : List Value} {u : T} (h : w.ownsRow B e S.n v l.length xs) (hx : ∀ i (hi : i < l.length), ∃ cs, S.At (fun q => P q ∧ v.ownBlock ≠ some q) w cs l[i] ∧ ∀ j, j < S.n → xs[i * S.n + j]? = cs[j]?)
    (hu : S.At (fun q => P q ∧ v.ownBlock ≠ some q) w cs u) (h' : w'.ownsRow B e S.n v' (l.length + 1) (xs ++ cs)) (hg : w.grownBy w' v.ownBlock) (hv : v'.ownBlock = v.ownBlock ∨ v'.ownBlock = some w.heap.size) : OwnG S e B P w' v' (l ++ [u]) := by
  have kp : ∀ {c : List Value} {t : T}, S.At (fun q => P q ∧ v.ownBlock ≠ some q) w c t → S.At (fun q => P q ∧ v'.ownBlock ≠ some q) w' c t := fun hc =>
    S.mono (S.keep (S.mono hc (Q' := fun q => (P q ∧ v'.ownBlock ≠ some q) ∧ v.ownBlock ≠ some q) (fun q hq hl => ⟨⟨hq.1, fun hh => by
      rcases hv with hv | hv
      · exact hq.2 (hv ▸ hh)
      · rw [hv] at hh; injection hh with hh; omega⟩, hq.2⟩)) (fun q hq hl => hg.block q hl (fun e => hq.2 e.symm)) hg.size) (fun q hq _ => hq.1)
  have hxl : xs.length = l.length * S.n := h.1
  refine OwnG.of_row (xs := xs ++ cs) (by rw [List.length_append]; exact h') (fun i hi => ?_)
  by_cases hlt : i < l.length
  · obtain ⟨c0, c1, c2⟩ := hx i hlt
    refine ⟨c0, by rw [List.getElem_append_left hlt]; exact kp c1, fun j hj => ?_⟩
    have := Nat.mul_le_mul_right S.n (show i + 1 ≤ l.length by omega)
    rw [Nat.add_mul] at this
    rw [List.getElem?_append_left (by omega), c2 j hj]
  · have hi2 : i = l.length := by simp at hi; omega
    subst hi2
    refine ⟨cs, by simpa using kp hu, fun j hj => ?_⟩
    rw [List.getElem?_append_right (by omega), hxl]
    congr 1
    omega
/-- One of them set anew. -/
theorem OwnG.store {b n c k : Nat} {cs : List Value} {u : T} (h : OwnG S e B P w (.slice (some ⟨b, 0, none⟩) n c) l) (hk : k < l.length) (hu : S.At (fun q => P q ∧ q ≠ b) w cs u) :
    OwnG S e B P (setL w b (k * S.n) cs) (.slice (some ⟨b, 0, none⟩) n c) (l.set k u) := by
  rcases h with ⟨h, _⟩ | ⟨b', cap, cur, hv, h2, h3, h4, h5, h6, h7⟩
  · cases h
  injection hv with hv hn hc
  injection hv with hv
  injection hv with hv
  subst hv hn hc
  have hl := S.len hu
  have hb' := Box.setL cs (k * S.n) h3
  have ho := Only.setL cs (k * S.n) (Only.refl b w)
  have hkn := Nat.mul_le_mul_right S.n (show k + 1 ≤ c by omega)
  rw [Nat.add_mul] at hkn
  have kp : ∀ {c : List Value} {t : T}, S.At (fun q => P q ∧ q ≠ b) w c t → S.At (fun q => P q ∧ q ≠ b) (setL w b (k * S.n) cs) c t := fun hc =>
    S.keep hc (fun q hq hl => ho.block q hl (fun e => by injection e with e; exact hq.2 e)) ho.size
  refine .inr ⟨b, c, putL cur (k * S.n) cs, by rw [List.length_set], h2, hb', by rw [List.length_set]; exact h4, h5, by rw [putL_size]; exact h6, fun i hi _ => ?_⟩
  rw [List.length_set] at hi
  by_cases hik : i = k
  · subst hik
    refine ⟨cs, by rw [List.getElem_set_self]; exact kp hu, fun j hj => ?_⟩
    rw [Nat.zero_add]
    exact putL_new cs cur _ j (by omega) (by omega)
  · obtain ⟨c0, c1, c2⟩ := h7 i hi hi
    refine ⟨c0, by rw [List.getElem_set_ne (by omega)]; exact kp c1, fun j hj => ?_⟩
    rw [← c2 j hj, Nat.zero_add]
    rcases Nat.lt_or_ge i k with h | h
    · have := Nat.mul_le_mul_right S.n (show i + 1 ≤ k by omega)
      rw [Nat.add_mul] at this
      exact putL_old cs cur _ _ (by omega)
    · have := Nat.mul_le_mul_right S.n (show k + 1 ≤ i by omega)
      rw [Nat.add_mul] at this
      exact putL_far cs cur _ _ (by omega)
end

/-- append of one element to a row that the call owns. -/
theorem wpList_pushG {Pr : Program} {T : Type} {ops : Array Oper} {rest : List Oper} {o : Oper} {a : Act} {Q : Exit → Act → World → Prop} (hgd : o.guard = none) (s x : Operand) (t : TypeId)
    (ho : o.op = .call { callee := .builtin .append, args := #[s, x], argTypes := #[t, t] }) (S : Shape T) (e : TypeId) (i : TypeInfo) (z : Value) (bytes : Nat) (ht : Pr.underlying t = some (.slice e)) (hi : Pr.info? e = some i) (hz : i.zero = some z) (hsize : i.size = S.n) (hby : i.bytes = bytes) (hzs : z.cells.size = S.n) (hsz : 0 < S.n) (hb1 : bytes ≤ 1000)
    (B : Nat) (P : Nat → Prop) (w : World) (v : Value) (l : List T) (hs : a.eval s = v) (hown : OwnG S e B P w v l) (u : T) (cs : List Value) (g c : Nat) (hx : a.eval x = .slice (some ⟨g, 0, none⟩) 1 c) (hg : ∀ j, j < S.n → w.cell? ⟨g, j, none⟩ = cs[j]?) (hu : S.At (fun q => P q ∧ v.ownBlock ≠ some q) w cs u) (h1 : ∀ y ∈ cs, y.oneCell' = true)
    (h63 : l.length ≤ 1048577) (hbase : B ≤ w.heap.size)
    (h : ∀ v' w', OwnG S e B P w' v' (l ++ [u]) → w.grownBy w' v.ownBlock → (v'.ownBlock = v.ownBlock ∨ v'.ownBlock = some w.heap.size) → wpList Pr ops Q rest (a.put o.dst v') w') : wpList Pr ops Q (o :: rest) a w := by
  obtain ⟨xs, r1, r2⟩ := hown.row
  have hl := S.len hu
  refine wpList_append_own_at _ hgd s x t ho B e i z S.n bytes ht hi hz hsize hby hzs hsz v l.length xs hs r1 ⟨g, 0, none⟩ 1 c cs hx (by rw [hl, Nat.one_mul]) (fun j y hj => ?_) h1 (by unfold maxLen; omega) ?_ hbase (fun v' w' k1 k2 _ k4 => h v' w' (OwnG.pushed r1 r2 hu k1 k2 k4) k2 k4)
  · have e : (⟨g, 0, none⟩ : Addr).add j = ⟨g, j, none⟩ := by unfold Addr.add; split <;> simp_all
    have hj2 : j < cs.length := by
      by_cases h : j < cs.length
      · exact h
      · rw [List.getElem?_eq_none (by omega)] at hj; cases hj
    rw [e, hg j (by omega)]
    exact hj
  · exact Nat.le_trans (Nat.mul_le_mul (show l.length + 1 ≤ 1048578 by omega) hb1) (by decide)
end Go.Proofs.Ytjbnabjfeepbeaa
