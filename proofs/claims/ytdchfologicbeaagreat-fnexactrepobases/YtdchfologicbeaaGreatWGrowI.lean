/- Proved here: appending a row of numbers, or nothing, to a row of its own; rows of at most 1,000,000 together. -/
import Derived.Test.YtdchfologicbeaaGreatWCommit
import Derived.Deep.AppendLies
namespace Go.Proofs.YtdchfologicbeaaGreat
set_option linter.unusedVariables false
open Go.ChangeShapes Go.WideShapes Go.ChangeAt Go.RowKit

def flatI (is : List Int) : List Value := is.map fun x => Value.int .i64 x

/-- a row of numbers that lies from a block on -/
structure GrowI (lo : Nat) (is : List Int) (wr : World) (v : Value) : Prop where
  own : wr.ownsRow lo 3 1 v is.length (flatI is)
  le : lo ≤ wr.heap.size

theorem GrowI.form {lo : Nat} {wr : World} {is : List Int} {v : Value} (h : GrowI lo is wr v) : ∃ a c, v = .slice a is.length c ∧ is.length ≤ c ∧ IntsAt wr a is := by
  obtain ⟨_, ⟨rfl, h2⟩ | ⟨g, cap, cur, rfl, hb, hg, hc, hm, hs, hx⟩⟩ := h.own
  · exact ⟨none, 0, by rw [h2], by omega, fun i hi => by omega⟩
  · refine ⟨some ⟨g, 0, none⟩, cap, rfl, hc, fun i hi => ⟨g, 0, rfl, (Array.getElem?_eq_some_iff.1 hg).1, ?_⟩⟩
    have hv : (flatI is)[i]? = some (.int .i64 (ix is i)) := by simp [flatI, ix, hi]
    rw [← hx, Nat.mul_one, List.getElem?_take, if_pos hi, Array.getElem?_toList] at hv
    simp only [World.cell?, hg, Option.isSome_none, Bool.false_eq_true, if_false, Nat.zero_add]
    exact hv

theorem GrowI.nil {lo : Nat} {w : World} (h : lo ≤ w.heap.size) : GrowI lo [] w (.slice none 0 0) := ⟨⟨rfl, .inl ⟨rfl, rfl⟩⟩, h⟩

theorem GrowI.one (w : World) (x : Int) (lo : Nat) (h : lo ≤ w.heap.size) : GrowI lo [x] (w.alloc (.cells #[.int .i64 x] 3)) (.slice (some ⟨w.heap.size, 0, none⟩) 1 1) :=
  ⟨⟨rfl, .inr ⟨w.heap.size, 1, #[.int .i64 x], rfl, h, heap_alloc_new w _, Nat.le_refl _, by unfold maxLen; omega, rfl, rfl⟩⟩, by simp; omega⟩

theorem GrowI.below {lo : Nat} {w w' : World} {is : List Int} {v : Value} (h : GrowI lo is w v) (hb : Below w.heap.size w w') : GrowI lo is w' v := by
  refine ⟨?_, Nat.le_trans h.le hb.size⟩
  obtain ⟨h1, h2 | ⟨g, cap, cur, rfl, hb', hg, rest⟩⟩ := h.own
  · exact ⟨h1, .inl h2⟩
  · exact ⟨h1, .inr ⟨g, cap, cur, rfl, hb', (hb.block g (Array.getElem?_eq_some_iff.1 hg).1).trans hg, rest⟩⟩

/-- a store into a block below does not touch it -/
theorem GrowI.set {lo : Nat} {w : World} {is : List Int} {v : Value} (h : GrowI lo is w v) {p : Addr} (hp : p.block < lo) (u : Value) : GrowI lo is (w.setCell p u) v := by
  refine ⟨?_, by simpa [World.setCell] using h.le⟩
  obtain ⟨h1, h2 | ⟨g, cap, cur, rfl, hb', hg, rest⟩⟩ := h.own
  · exact ⟨h1, .inl h2⟩
  · exact ⟨h1, .inr ⟨g, cap, cur, rfl, hb', (Below.heap_setCell _ _ _ _ (by omega)).trans hg, rest⟩⟩

/-- the first of them -/
theorem GrowI.take {lo : Nat} {w : World} {is js : List Int} {a : Option Addr} {n c : Nat} (h : GrowI lo (is ++ js) w (.slice a n c)) : GrowI lo is w (.slice a is.length c) := by
  refine ⟨?_, h.le⟩
  obtain ⟨h1, ⟨h2, h3⟩ | ⟨g, cap, cur, e, hb', hg, h4, h5, h6, h7⟩⟩ := h.own
  · simp only [Value.slice.injEq] at h2
    obtain ⟨rfl, rfl, rfl⟩ := h2
    have : is = [] := by cases is; rfl; simp at h3
    subst this
    exact ⟨rfl, .inl ⟨rfl, rfl⟩⟩
  · simp only [Value.slice.injEq] at e
    obtain ⟨rfl, rfl, rfl⟩ := e
    refine ⟨by simp [flatI], .inr ⟨g, c, cur, rfl, hb', hg, by simp at h4; omega, h5, h6, ?_⟩⟩
    have : (cur.toList.take ((is ++ js).length * 1)).take (is.length * 1) = (flatI (is ++ js)).take (is.length * 1) := by rw [h7]
    rw [List.take_take, show min (is.length * 1) ((is ++ js).length * 1) = is.length * 1 by simp] at this
    rw [this]
    simp [flatI]

theorem news_ints {w : World} {b off : Nat} {is : List Int} (h : IntsAt w (some ⟨b, off, none⟩) is) : ∀ j u, (flatI is)[j]? = some u → w.cell? ((⟨b, off, none⟩ : Addr).add j) = some u := by
  intro j u hu
  rw [flatI, List.getElem?_map, Option.map_eq_some_iff] at hu
  obtain ⟨x, hx, rfl⟩ := hu
  obtain ⟨hj, e⟩ := List.getElem?_eq_some_iff.1 hx
  obtain ⟨b', off', he, _, hc⟩ := h j hj
  obtain ⟨rfl, rfl⟩ : b = b' ∧ off = off' := by simpa using he
  rw [ix_get hj, e] at hc
  have hadd : (⟨b, off, none⟩ : Addr).add j = ⟨b, off + j, none⟩ := by unfold Addr.add; split <;> simp_all
  rw [hadd]
  exact hc

theorem run_append_void {P : Program} (w : World) (t ty e : TypeId) (i : TypeInfo) (ht : P.underlying t = some (.slice e)) (hi : P.info? e = some i) (a b : Option Addr) (n c d : Nat) (h : n ≤ c) :
    (Builtin.append_ #[t, t] ty #[.slice a n c, .slice b 0 d]).run P w = .ok (.slice a n c) w := by
  cases a <;> cases b <;> simp [Builtin.append_, run_underlying ht, sizeOf, typeInfo, hi, Builtin.lenOf, Builtin.firstCells, loadCells, loadCellsFrom, storeCells, h]

theorem wpList_append_void {P : Program} (w : World) {ops : Array Oper} {rest : List Oper} {o : Oper} {a : Act} {Q : Exit → Act → World → Prop}
    (hg : o.guard = none) (s x : Operand) (t : TypeId) (hop : o.op = Op.call { callee := Callee.builtin Builtin.append, args := #[s, x], argTypes := #[t, t] }) (e : TypeId) (i : TypeInfo) (ht : P.underlying t = some (.slice e)) (hi : P.info? e = some i)
    (p q : Option Addr) (k c d : Nat) (h : k ≤ c) (hs : a.eval s = .slice p k c) (hx : a.eval x = .slice q 0 d) (hK : wpList P ops Q rest (a.put o.dst (.slice p k c)) w) :
    wpList P ops Q (o :: rest) a w := by
  refine wpList_plain hg fun K hK' => ?_
  have hr := run_append_void (P := P) w t o.type e i ht hi p q k c d h
  unfold Oper.wp execOp
  simp only [hop, resolve, invoke, builtin, Sem.run_bind, Sem.run_pure, Result.andThen_ok, List.map_toArray, List.map_cons, List.map_nil, hs, hx, hr]
  exact hK' _ _ hK

theorem wpList_moreI {ops : Array Oper} {rest : List Oper} {o : Oper} {a : Act} {Q : Exit → Act → World → Prop} {lo : Nat} {W : World} {ml p : List Int} {v : Value} {pr : Option Addr} {cr : Nat}
    (hg : o.guard = none) (s x : Operand) (hop : o.op = Op.call { callee := Callee.builtin Builtin.append, args := #[s, x], argTypes := #[81, 81] })
    (hG : GrowI lo ml W v) (hp : IntsAt W pr p) (hs : a.eval s = v) (hx : a.eval x = .slice pr p.length cr) (hb : ml.length + p.length ≤ 1000000)
    (hK : ∀ r a' c' W', Hid (r = ml ++ p) → W.grownBy W' v.ownBlock → GrowI lo r W' (.slice a' r.length c') → wpList Tryz.prog ops Q rest (a.put o.dst (.slice a' r.length c')) W') :
    wpList Tryz.prog ops Q (o :: rest) a W := by
  obtain ⟨i0, hi, hz0, hz1, hz2⟩ := info_parts infoInt
  by_cases h0 : 0 < p.length
  · obtain ⟨b, off, rfl, hlt, _⟩ := hp 0 h0
    refine wpList_append_lies W hg s x 81 hop lo 3 i0 _ 1 8 Tryz.underlying81 hi hz0 hz1 hz2 rfl (by omega) v ml.length (flatI ml) hs hG.own ⟨b, off, none⟩ p.length cr (flatI p) hx (by simp [flatI]) (news_ints hp) (by simp [flatI, Value.oneCell']) h0 (by unfold maxLen; omega) (by omega) hG.le W.heap.size rfl ?_
    intro g cap w' hown hgrow _ _
    have hf : flatI ml ++ flatI p = flatI (ml ++ p) := by simp [flatI]
    rw [hf, ← List.length_append] at hown
    rw [← List.length_append]
    exact hK _ _ _ _ rfl hgrow ⟨hown, Nat.le_trans hG.le hgrow.size⟩
  · obtain rfl : p = [] := List.eq_nil_of_length_eq_zero (by omega)
    obtain ⟨av, cv, rfl, hcv, _⟩ := hG.form
    refine wpList_append_void W hg s x 81 hop 3 i0 Tryz.underlying81 hi av pr ml.length cv cr hcv hs hx ?_
    exact hK ml av cv W (by show _ = _; rw [List.append_nil]) ⟨rfl, rfl, rfl, Nat.le_refl _, fun _ _ _ => rfl⟩ hG

theorem wpList_moreJ {ops : Array Oper} {rest : List Oper} {o : Oper} {a : Act} {Q : Exit → Act → World → Prop} {lo : Nat} {W : World} {ml p : List Int} {v : Value} {pr : Option Addr} {cr : Nat}
    (hg : o.guard = none) (s x : Operand) (hop : o.op = Op.call { callee := Callee.builtin Builtin.append, args := #[s, x], argTypes := #[81, 81] })
    (hG : GrowI lo ml W v) (hp : IntsAt W pr p) (hs : a.eval s = v) (hx : a.eval x = .slice pr p.length cr) (hb : ml.length + p.length ≤ 1000000)
    (hK : ∀ r a' c' W', Hid (r = ml ++ p) → W.grownBy W' v.ownBlock → GrowI lo r W' (.slice a' r.length c') → Hid (∀ g, (Value.slice a' r.length c').ownBlock = some g → v.ownBlock = some g ∨ g = W.heap.size) → wpList Tryz.prog ops Q rest (a.put o.dst (.slice a' r.length c')) W') :
    wpList Tryz.prog ops Q (o :: rest) a W := by
  obtain ⟨i0, hi, hz0, hz1, hz2⟩ := info_parts infoInt
  by_cases h0 : 0 < p.length
  · obtain ⟨b, off, rfl, hlt, _⟩ := hp 0 h0
    refine wpList_append_lies W hg s x 81 hop lo 3 i0 _ 1 8 Tryz.underlying81 hi hz0 hz1 hz2 rfl (by omega) v ml.length (flatI ml) hs hG.own ⟨b, off, none⟩ p.length cr (flatI p) hx (by simp [flatI]) (news_ints hp) (by simp [flatI, Value.oneCell']) h0 (by unfold maxLen; omega) (by omega) hG.le W.heap.size rfl ?_
    intro g cap w' hown hgrow hat _
    have hf : flatI ml ++ flatI p = flatI (ml ++ p) := by simp [flatI]
    rw [hf, ← List.length_append] at hown
    rw [← List.length_append]
    exact hK _ _ _ _ rfl hgrow ⟨hown, Nat.le_trans hG.le hgrow.size⟩ fun x hx => by cases hx; exact hat
  · obtain rfl : p = [] := List.eq_nil_of_length_eq_zero (by omega)
    obtain ⟨av, cv, rfl, hcv, _⟩ := hG.form
    refine wpList_append_void W hg s x 81 hop 3 i0 Tryz.underlying81 hi av pr ml.length cv cr hcv hs hx ?_
    exact hK ml av cv W (by show _ = _; rw [List.append_nil]) ⟨rfl, rfl, rfl, Nat.le_refl _, fun _ _ _ => rfl⟩ hG fun x hx => .inl hx

/-- the block of a row that lies from a block on -/
theorem GrowI.block {lo : Nat} {is : List Int} {wr : World} {v : Value} (h : GrowI lo is wr v) : ∀ k, v.ownBlock = some k → lo ≤ k := by
  obtain ⟨_, ⟨rfl, _⟩ | ⟨g, cap, cur, rfl, hb, _⟩⟩ := h.own
  · intro k hk; cases hk
  · intro k hk
    cases hk
    exact hb

end Go.Proofs.YtdchfologicbeaaGreat
