/- Proved here: appending a row of points, or nothing, to a row of its own, at every kind of region; rows of at most 1,000,000 points. -/
import Derived.Test.YtaefibefagbheaaWSeqCalls
import Derived.Deep.RegionLaw
namespace Go.Proofs.Ytaefibefagbheaa
set_option linter.unusedVariables false
open Go.ChangeShapes Go.WideShapes Go.ChangeAt Go.RowKit

theorem Grow.litB {w0 W : World} (hb : Below w0.heap.size w0 W) : Grow w0 32 [] (W.alloc (.cells #[] 32)) (.slice (some ⟨W.heap.size, 0, none⟩) 0 0) :=
  ⟨World.ownsRow_lit W #[] 0 hb.size (Nat.zero_le _) (by simp), hb.alloc hb.size _⟩

theorem Grow.oneB {w0 W : World} (hb : Below w0.heap.size w0 W) (x y : Int) : Grow w0 32 [(x, y)] (W.alloc (.cells #[.int .i64 x, .int .i64 y] 32)) (.slice (some ⟨W.heap.size, 0, none⟩) 1 1) :=
  ⟨World.ownsRow_lit W #[.int .i64 x, .int .i64 y] 1 hb.size (by unfold maxLen; omega) (by simp), hb.alloc hb.size _⟩

theorem Grow.litN {w0 W : World} (hb : Below w0.heap.size w0 W) (n : Nat) (hn : W.heap.size = n) : Grow w0 32 [] (W.alloc (.cells #[] 32)) (.slice (some ⟨n, 0, none⟩) 0 0) := by
  subst hn
  exact Grow.litB hb

theorem Grow.oneN {w0 W : World} (hb : Below w0.heap.size w0 W) (x y : Int) (n : Nat) (hn : W.heap.size = n) : Grow w0 32 [(x, y)] (W.alloc (.cells #[.int .i64 x, .int .i64 y] 32)) (.slice (some ⟨n, 0, none⟩) 1 1) := by
  subst hn
  exact Grow.oneB hb x y

theorem pts_oneN (w : World) (x y : Int) (t : TypeId) (n : Nat) (hn : w.heap.size = n) : PtsAt (w.alloc (.cells #[.int .i64 x, .int .i64 y] t)) (some ⟨n, 0, none⟩) [(x, y)] := by
  subst hn
  exact pts_one w x y t

theorem Grow.dr1 {w0 wr : World} {e : TypeId} {qs : List (Int × Int)} {v : Value} (h : Grow w0 e qs wr v) : Grow w0 e qs wr.drew v := h.drewN 1

theorem Grow.far {w0 wr : World} {e : TypeId} {qs : List (Int × Int)} {v : Value} (h : Grow w0 e qs wr v) {j : Nat} (hj : v.ownBlock = some j) : w0.heap.size ≤ j ∧ j < wr.heap.size := h.own.lt j hj

/-- something else is written -/
theorem Grow.past {w0 wr w1 : World} {e : TypeId} {qs : List (Int × Int)} {v : Value} (h : Grow w0 e qs wr v) {b : Option Nat} (hg : wr.grownBy w1 b) (hb : ∀ j, b = some j → w0.heap.size ≤ j) (hne : ∀ j, b = some j → v.ownBlock ≠ some j) : Grow w0 e qs w1 v := by
  refine ⟨World.ownsRow.kept h.own hg ?_, h.bel.grown hg h.bel.size hb⟩
  cases b with
  | none => cases hv : v.ownBlock <;> simp
  | some j => exact .inr (hne j rfl)

theorem wp_grow {o : Oper} {a : Act} {K : Act → World → Prop} {Q : Exit → Act → World → Prop} {w0 W : World} {ml p : List (Int × Int)} {v : Value} {pr : Option Addr} {np cr : Nat}
    (s x : Operand) (hop : o.op = Op.call { callee := Callee.builtin Builtin.append, args := #[s, x], argTypes := #[23, 23] })
    (hG : Grow w0 32 ml W v) (hp : PtsAt W pr p) (hs : a.eval s = v) (hx : a.eval x = .slice pr np cr) (hnp : np = p.length) (hb : ml.length + p.length ≤ 1000000)
    (hK : ∀ r a' c' W', Hid (r = ml ++ p) → Hid (Grow w0 32 r W' (.slice a' r.length c')) → Hid (W.grownBy W' v.ownBlock) → Hid (NewAt v W (.slice a' r.length c')) → K (a.put o.dst (.slice a' r.length c')) W') :
    o.wp Try.prog a W K Q := by
  subst hnp
  obtain ⟨i0, hi, hz0, hz1, hz2⟩ := info_parts infoPt
  by_cases h0 : 0 < p.length
  · obtain ⟨b, off, rfl, hlt, _, _⟩ := hp 0 h0
    refine wp_append_lies W s x 23 hop w0.heap.size 32 i0 _ 2 16 Try.underlying23 hi hz0 hz1 hz2 rfl (by omega) v ml.length (flat ml) hs hG.own ⟨b, off, none⟩ p.length cr (flat p) hx (flat_len p) (news_pts hp) (flat_one p) h0 (by unfold maxLen; omega) (by omega) hG.bel.size W.heap.size rfl ?_
    intro g cap w' hown hgrow hat _
    have := hG.more (Below.refl _ _) rfl hown hgrow
    rw [← List.length_append] at this ⊢
    exact hK _ _ _ _ rfl this hgrow (fun y hy => by
      obtain rfl : g = y := by simpa [Value.ownBlock] using hy
      exact hat.imp id fun e => by omega)
  · obtain rfl : p = [] := List.eq_nil_of_length_eq_zero (by omega)
    obtain ⟨av, cv, rfl, hcv⟩ := hG.form
    have hr := run_append_nothing (P := Try.prog) W 23 o.type 32 i0 Try.underlying23 hi av pr ml.length cv cr hcv
    unfold Oper.wp execOp
    simp only [hop, resolve, invoke, builtin, Sem.run_bind, Sem.run_pure, Result.andThen_ok, List.map_toArray, List.map_cons, List.map_nil, hs, hx, hr, List.length_nil]
    exact hK ml av cv W (by show _ = _; rw [List.append_nil]) hG (World.grownBy.refl _ _) fun y hy => .inl hy

/-- at the list of a plain region's operations; the guard, if there is one, says yes -/
theorem wpList_growG {ops : Array Oper} {rest : List Oper} {o : Oper} {a : Act} {Q : Exit → Act → World → Prop} {w0 W : World} {ml p : List (Int × Int)} {v : Value} {pr : Option Addr} {np cr : Nat}
    (hw : Region.wanted o (yielded ops a.tmps) = true) (s x : Operand) (hop : o.op = Op.call { callee := Callee.builtin Builtin.append, args := #[s, x], argTypes := #[23, 23] })
    (hG : Grow w0 32 ml W v) (hp : PtsAt W pr p) (hs : a.eval s = v) (hx : a.eval x = .slice pr np cr) (hnp : np = p.length) (hb : ml.length + p.length ≤ 1000000)
    (hK : ∀ r a' c' W', Hid (r = ml ++ p) → Hid (Grow w0 32 r W' (.slice a' r.length c')) → Hid (W.grownBy W' v.ownBlock) → Hid (NewAt v W (.slice a' r.length c')) → wpList Try.prog ops Q rest (a.put o.dst (.slice a' r.length c')) W') :
    wpList Try.prog ops Q (o :: rest) a W :=
  wpList_step fun K hK' => by
    simp only [hw, if_true]
    exact wp_grow s x hop hG hp hs hx hnp hb fun r a' c' W' h1 h2 h3 h4 => hK' _ _ (hK r a' c' W' h1 h2 h3 h4)

/-- at a step of a region that draws its order; the guard, if there is one, says yes -/
theorem step_growG {ops : Array Oper} {o : Oper} {a : Act} {K : Act → World → Prop} {Q : Exit → Act → World → Prop} {E : Prop} {w0 W : World} {ml p : List (Int × Int)} {v : Value} {pr : Option Addr} {np cr : Nat}
    (hw : Region.wanted o (yielded ops a.tmps) = true) (s x : Operand) (hop : o.op = Op.call { callee := Callee.builtin Builtin.append, args := #[s, x], argTypes := #[23, 23] })
    (hG : Grow w0 32 ml W v) (hp : PtsAt W pr p) (hs : a.eval s = v) (hx : a.eval x = .slice pr np cr) (hnp : np = p.length) (hb : ml.length + p.length ≤ 1000000)
    (hK : ∀ r a' c' W', Hid (r = ml ++ p) → Hid (Grow w0 32 r W' (.slice a' r.length c')) → Hid (W.grownBy W' v.ownBlock) → Hid (NewAt v W (.slice a' r.length c')) → K (a.put o.dst (.slice a' r.length c')) W') :
    if Region.wanted o (yielded ops a.tmps) = true then Oper.wp Try.prog o a W K Q else E := by
  rw [if_pos hw]
  exact wp_grow s x hop hG hp hs hx hnp hb hK
end Go.Proofs.Ytaefibefagbheaa
