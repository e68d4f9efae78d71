/- Proved here: appending a row of points, or nothing, to a row of its own; rows of at most 1,000,000 points. -/
import Derived.Test.YtaefibefagbheaaWSeqRow
import Derived.Test.YtaefibefagbheaaWSeqMergeI
namespace Go.Proofs.Ytaefibefagbheaa
set_option linter.unusedVariables false
open Go.ChangeShapes Go.WideShapes Go.ChangeAt Go.RowKit

theorem wpList_append_nothing {P : Program} (w : World) {ops : Array Oper} {rest : List Oper} {o : Oper} {a : Act} {Q : Exit → Act → World → Prop}
    (hg : o.guard = none) (s x : Operand) (t : TypeId) (hop : o.op = Op.call { callee := Callee.builtin Builtin.append, args := #[s, x], argTypes := #[t, t] }) (e : TypeId) (i : TypeInfo) (ht : P.underlying t = some (.slice e)) (hi : P.info? e = some i)
    (p q : Option Addr) (k c d : Nat) (h : k ≤ c) (hs : a.eval s = .slice p k c) (hx : a.eval x = .slice q 0 d) (hK : wpList P ops Q rest (a.put o.dst (.slice p k c)) w) :
    wpList P ops Q (o :: rest) a w := by
  refine wpList_plain hg fun K hK' => ?_
  have hr := run_append_nothing (P := P) w t o.type e i ht hi p q k c d h
  unfold Oper.wp execOp
  simp only [hop, resolve, invoke, builtin, Sem.run_bind, Sem.run_pure, Result.andThen_ok, List.map_toArray, List.map_cons, List.map_nil, hs, hx, hr]
  exact hK' _ _ hK

theorem Grow.form {w0 : World} {e : TypeId} {qs : List (Int × Int)} {wr : World} {v : Value} (h : Grow w0 e qs wr v) : ∃ a c, v = .slice a qs.length c ∧ qs.length ≤ c := by
  obtain ⟨_, ⟨rfl, h2⟩ | ⟨g, cap, cur, rfl, _, _, hc, _⟩⟩ := h.own
  · exact ⟨none, 0, by rw [h2], by omega⟩
  · exact ⟨_, cap, rfl, hc⟩

/-- at the list of a plain region's operations -/
theorem wpList_grow {ops : Array Oper} {rest : List Oper} {o : Oper} {a : Act} {Q : Exit → Act → World → Prop} {w0 W : World} {ml p : List (Int × Int)} {v : Value} {pr : Option Addr} {cr : Nat}
    (hg : o.guard = none) (s x : Operand) (hop : o.op = Op.call { callee := Callee.builtin Builtin.append, args := #[s, x], argTypes := #[23, 23] })
    (hG : Grow w0 32 ml W v) (hp : PtsAt W pr p) (hs : a.eval s = v) (hx : a.eval x = .slice pr p.length cr) (hb : ml.length + p.length ≤ 1000000)
    (hK : ∀ r a' c' W', Hid (r = ml ++ p) → Grow w0 32 r W' (.slice a' r.length c') → wpList Try.prog ops Q rest (a.put o.dst (.slice a' r.length c')) W') :
    wpList Try.prog ops Q (o :: rest) a W := by
  obtain ⟨i0, hi, hz0, hz1, hz2⟩ := info_parts infoPt
  by_cases h0 : 0 < p.length
  · obtain ⟨b, off, rfl, hlt, _, _⟩ := hp 0 h0
    refine wpList_append_lies W hg s x 23 hop w0.heap.size 32 i0 _ 2 16 Try.underlying23 hi hz0 hz1 hz2 rfl (by omega) v ml.length (flat ml) hs hG.own ⟨b, off, none⟩ p.length cr (flat p) hx (flat_len p) (news_pts hp) (flat_one p) h0 (by unfold maxLen; omega) (by omega) hG.bel.size W.heap.size rfl ?_
    intro g cap w' hown hgrow _ _
    have := hG.more (Below.refl _ _) rfl hown hgrow
    rw [← List.length_append] at this ⊢
    exact hK _ _ _ _ rfl this
  · obtain rfl : p = [] := List.eq_nil_of_length_eq_zero (by omega)
    obtain ⟨av, cv, rfl, hcv⟩ := hG.form
    refine wpList_append_nothing W hg s x 23 hop 32 i0 Try.underlying23 hi av pr ml.length cv cr hcv hs hx ?_
    exact hK ml av cv W (by show _ = _; rw [List.append_nil]) hG

/-- one point in a block of its own -/
theorem pts_one (w : World) (x y : Int) (t : TypeId) : PtsAt (w.alloc (.cells #[.int .i64 x, .int .i64 y] t)) (some ⟨w.heap.size, 0, none⟩) [(x, y)] := by
  intro i hi
  obtain rfl : i = 0 := by simp at hi; omega
  exact ⟨w.heap.size, 0, rfl, by simp, by simp [px, go_sem], by simp [py, go_sem]⟩
end Go.Proofs.Ytaefibefagbheaa
